/-
  Texts of this claim, one behind the other.
-/
import Derived.Test.YtdjenakmdjiknaaRows
import Derived.WalkKit
import Derived.ProofKit
import Derived.OpenShut
import Derived.Carry
import Derived.SizedLaws
import Derived.Lib.Hide
import Derived.Deep.Slices
import Derived.Deep.Fields
import Derived.OneCell
import Derived.Deep.Draws
import Derived.Maps.AppendAt
import Derived.Laws.AppendOwnNone

/-! THE FRAME THAT ALL LAWS OF THIS SEAT SHARE: from 'the call answers true, and nothing that was there before has turned' to the given row's statement. -/
section
namespace Go.Proofs.Ytdjenakmdjiknaa.Frame
open Go.ChangeShapes Go.WideShapes Go.ChangeAt Go.RowKit

theorem own : ownKnob Try.prog.godebug = none := by kernel_rfl
theorem laidOut : laidOutB Try.prog = true := by kernel_rfl

section
variable {H : Type} {enc : TypeId × Value → H} {P : Program}

/-- Arguments read as before where below the old heap's size nothing has turned. -/
theorem stays (hl : laidOutB P = true) {W W' : World} (hb : Below W.heap.size W W') {sp : Nat → Bool} :
    ∀ {ts : List TypeId} {vs : List Value} {ds : List (DataW H)} {ps : List MemPlace}, (∀ t ∈ ts, P.readableRec t = true ∧ t < P.types.size) →
      DataW.TrodAll enc P W 0 (fun _ => true) true ts vs ds ps → (∀ x ∈ ps, x.block < W.heap.size) → (∀ p ∈ ps, sp p.block = true) → DataW.TrodAll enc P W' 0 sp true ts vs ds ps
  | [], [], [], _, _, h, _, _ => h
  | _ :: _, _ :: _, _ :: _, _, hT, ⟨p, q, h1, h2, e⟩, hlt, hs =>
    ⟨p, q, WideElems.Trod_stays hl (hT _ (List.mem_cons.2 (Or.inl rfl))).1 (hT _ (List.mem_cons.2 (Or.inl rfl))).2 h1
        (fun x hx => hb.same (hlt x (by rw [e]; exact List.mem_append_left _ hx))) (fun x hx => hs x (by rw [e]; exact List.mem_append_left _ hx)),
      stays hl hb (fun t ht => hT t (List.mem_cons.2 (Or.inr ht))) h2 (fun x hx => hlt x (by rw [e]; exact List.mem_append_right _ hx)) (fun x hx => hs x (by rw [e]; exact List.mem_append_right _ hx)), e⟩

/-- 'post_of_same' where only 'Below' is known of the world behind the call. -/
theorem post_of_below {f : Func} {s : ChangeSpec} {apart fresh handsOn again : Bool} {W W' : World} {args : Array Value} {v : Value} {ds gs : List (DataW H)} {before pa pv : List MemPlace}
    (hW : DataW.Whole enc P f.params.toList s.vars apart W args.toList ds gs before)
    (hres : ∀ (b : Nat) (sp : Nat → Bool) (hd : Bool), DataW.TrodAll enc P W' b sp hd f.resultTypes.toList (v.resultList f.resultTypes.size) (s.fn H (ds ++ gs)).results [])
    (hargs : ∀ sp : Nat → Bool, (∀ p ∈ before, sp p.block = true) → DataW.TrodAll enc P W' 0 sp true f.params.toList args.toList (s.fn H (ds ++ gs)).args pa)
    (hvars : ∀ sp : Nat → Bool, (∀ p ∈ before, sp p.block = true) → DataW.TrodVars enc P W' sp s.vars (s.fn H (ds ++ gs)).vars pv)
    (hps : before = pa ++ pv) (hb : Below W.heap.size W W')
    (hok : ∀ (j : Nat) (t : TypeId) (r : Value), f.resultTypes[j]? = some t → (v.resultList f.resultTypes.size)[j]? = some r → Value.okWide P W' .any 0 t r) :
    s.post enc P f apart fresh handsOn again W args v W' := by
  have hlt : ∀ p ∈ before, p.block < W.heap.size := fun p hp => hW.lt p hp
  have hold : ∀ p ∈ before, (fun b => decide (b < W.heap.size)) p.block = true := fun p hp => by simpa using hlt p hp
  refine ⟨ds, gs, before, [], pa, pv, hW, hres _ _ _, hargs _ hold, hvars _ hold, World.keptBut_mono (fun p hp => ⟨hp, ?_⟩) (hb.frame (· ∈ before)), fun _ => ?_⟩
  · rw [hps, List.mem_append] at hp
    exact Or.inr hp
  · obtain ⟨_, _, _, _, _, hz, hn⟩ := hW
    refine ⟨hok, _, _, ([] ++ pa) ++ pv, ⟨[] ++ pa, pv, trodAll_append (hargs _ (fun _ _ => rfl)) (hres _ _ _), hvars _ (fun _ _ => rfl), rfl, ?_, ?_⟩, ?_⟩
    · intro b off hp
      have hin : MemPlace.cell b off ∈ before := by rw [hps]; simpa using hp
      rw [hb.frozen (hlt _ hin)]
      exact hz b off hin
    · intro ha
      have := hn ha
      rw [hps] at this
      simpa using this
    · intro p hp _
      rw [hps]
      simpa using hp

/-- What a law's specification is, whatever it is called. -/
def Lawful (s : ChangeSpec) (n : Nat) : Prop :=
  s.vars = [] ∧ ∀ (H : Type) (ds : List (DataW H)), ds.length = n → (s.fn H ds).results = [.lit (.bool true)] ∧ (s.fn H ds).args = ds ∧ (s.fn H ds).vars = []

theorem trodAll_length {w : World} {b : Nat} {sp : Nat → Bool} {hd : Bool} : ∀ {ts : List TypeId} {vs : List Value} {ds : List (DataW H)} {ps : List MemPlace}, DataW.TrodAll enc P w b sp hd ts vs ds ps → ds.length = ts.length
  | [], [], [], _, _ => rfl
  | _ :: _, _ :: _, _ :: _, _, ⟨_, _, _, h2, _⟩ => by simp [trodAll_length h2]

/-- THE LAW's LIFT: the walk answers true, and below the old heap's size nothing has turned. -/
theorem lift {C : Checked} {os : Os} {f : FuncId} {fn : Func} {s : ChangeSpec} {B : TypeId}
    (own : ownKnob C.prog.godebug = none) (started : os.Started) (noInit : C.prog.inits.idxOf? f = none) (hfn : C.prog.funcs[f]? = some fn)
    (hl : laidOutB C.prog = true) (hTB : (fn.params.toList.all fun t => C.prog.readableRec t && decide (t < C.prog.types.size)) = true)
    (hres : fn.resultTypes = #[B]) (hB : C.prog.underlying B = some .bool) (law : Lawful s fn.params.toList.length)
    (witness : ∃ (w : World) (tape : Tape) (i : Input), w.os = os ∧ (w.forCall tape i).Shaped C.prog ∧ i.vars = [] ∧ Input.okWide C.prog (w.forCall tape i) .any w.heap.size f i ∧
      s.pre6 enc C.prog fn [] false (w.forCall tape i).memory i.args ∧ Assume.holds {} C.prog (lone (Frame.enter C.prog f i.args .normal) [] (w.forCall tape i)))
    (walk : ∀ (W : World) (base : Nat) (args : Array Value) (ds : List (DataW H)) (p : List MemPlace),
      (∀ (j : Nat) t v, fn.params[j]? = some t → args[j]? = some v → Value.okWide C.prog W .any base t v) →
      DataW.TrodAll enc C.prog W 0 (fun _ => true) true fn.params.toList args.toList ds p → (∀ x ∈ p, x.block < W.heap.size) →
      (DataW.weightsEach C.prog fn.params.toList ds).all (· ≤ reachBytes) = true →
      Calls C.prog f args W fun e W' => e = .returned (.bool true) ∧ Below W.heap.size W W') :
    ReturnsInHanded {} C os f .any (s.pre6 enc C.prog fn [] false) (s.post enc C.prog fn false true false false) := by
  obtain ⟨hvars, hlaw⟩ := law
  have hT : ∀ t ∈ fn.params.toList, C.prog.readableRec t = true ∧ t < C.prog.types.size := fun t ht => by
    have := List.all_eq_true.1 hTB t ht
    simpa using this
  refine returnsInHanded_of_change_sized (C := C) own started noInit hfn witness ?_
  intro W base args ds gs before hval hW _ hsz _
  have hW' := hW
  obtain ⟨p, q, hA, hV, rfl, hfz, hnd⟩ := hW
  rw [hvars] at hV
  obtain ⟨rfl, rfl⟩ := trodVars_none hV
  have hv0 : s.plain.varTypes C.prog = [] := by
    have : s.plain.vars = [] := hvars
    simp [DataSpec.varTypes, this]
  rw [hv0, List.append_nil, List.append_nil] at hsz
  have hlt : ∀ x ∈ p, x.block < W.heap.size := fun x hx => hW'.lt x (List.mem_append_left _ hx)
  obtain ⟨h1, h2, h3⟩ := hlaw H ds (trodAll_length hA)
  refine (walk W base args ds p hval hA hlt hsz).mono fun e W' ⟨he, hb⟩ => ?_
  subst he
  refine ⟨_, rfl, post_of_below (pa := p) (pv := []) hW' (fun _ _ _ => ?_) (fun sp hsp => ?_) (fun _ _ => ?_) rfl hb (ok_one hres rfl (okWide_bool_mk hB _))⟩
  · rw [List.append_nil, h1, hres]
    exact trodAll_cons_mk (shut_bool hB _) trodAll_mk0
  · rw [List.append_nil, h2]
    exact stays hl hb hT hA hlt (fun x hx => hsp x (List.mem_append_left _ hx))
  · rw [List.append_nil, h3, hvars]
    trivial
end
end Go.Proofs.Ytdjenakmdjiknaa.Frame
end

/-! WHAT COMES IN: a slice whose elements read as something plain, whatever their cells. -/
section
namespace Go.Proofs.Ytdjenakmdjiknaa
open Go.ChangeShapes Go.WideShapes Go.ChangeAt Go.RowKit Go.Deep
set_option linter.unusedVariables false
set_option maxRecDepth 100000

section
variable {H : Type} {enc : TypeId × Value → H} {P : Program} {W : World} {base : Nat}
/-- the slice's elements, E cells each, as a list. -/
theorem open_listS {α : Type} (dflt : α) (ce : α → List Value) (Pd : α → Prop) (hP : Pd dflt) {t e : TypeId} {E : Nat} (ht : P.underlying t = some (.slice e)) (hE : P.cellsOf e = E) (h0 : 0 < E)
    (hread : ∀ (n : Nat) (cs : List Value) (y : DataW H × List MemPlace), DataW.trod enc P W 0 (fun _ => true) true n e cs = some y → ∃ d : α, cs = ce d ∧ Pd d)
    {v : Value} {d : DataW H} {p : List MemPlace} (hv : ∃ a l c, v = .slice a l c) (h : DataW.Trod enc P W 0 (fun _ => true) true t v d p) :
    ∃ (A : Option Addr) (n c : Nat) (ds : List α), v = .slice A n c ∧ ds.length = n ∧ (∀ i, Pd (ds.getD i dflt)) ∧ (A = none → c = 0) ∧ n ≤ 9223372036854775807 ∧
      (0 < n → ∃ b off, A = some ⟨b, off, none⟩ ∧ b < W.heap.size ∧ ∀ i, i < n → ∀ j, j < E → W.cell? ⟨b, off + i * E + j, none⟩ = (ce (ds.getD i dflt))[j]?) := by
  obtain ⟨a0, len, cap, rfl⟩ := hv
  obtain ⟨fuel, hf⟩ := h
  rcases open_slice ht hf with ⟨hcs, _⟩ | ⟨a, len', cap', m, nf, D, Pl, hcs, _, hl, hm, hmm, _, hi⟩
  · simp [Value.cells] at hcs
    obtain ⟨rfl, rfl, rfl⟩ := hcs
    exact ⟨none, 0, 0, [], rfl, rfl, fun i => by simpa using hP, fun _ => rfl, by omega, fun h => absurd h (by omega)⟩
  · simp [Value.cells] at hcs
    obtain ⟨rfl, rfl, rfl⟩ := hcs
    simp only [if_true] at hmm
    unfold maxLen at hm
    have each : ∀ i, ∃ d : α, Pd d ∧ (i < len → ∀ j, j < E → W.cell? (a.add (i * E + j)) = (ce d)[j]?) := fun i => by
      by_cases hlt : i < len
      · obtain ⟨cs', hc, ht'⟩ := hi i (by omega)
        rw [hE] at hc
        obtain ⟨d, rfl, hd⟩ := hread _ _ _ ht'
        refine ⟨d, hd, fun _ j hj => ?_⟩
        have := (World.cells?_some hc).2.2 j hj
        rw [← this, ← Go.Deep.add_add]
      · exact ⟨dflt, hP, fun h => absurd h hlt⟩
    have hpick : ∃ f : Nat → α, ∀ i, Pd (f i) ∧ (i < len → ∀ j, j < E → W.cell? (a.add (i * E + j)) = (ce (f i))[j]?) := ⟨fun i => Classical.choose (each i), fun i => Classical.choose_spec (each i)⟩
    obtain ⟨f, hfx⟩ := hpick
    have hg : ∀ i, i < len → ((List.range len).map f).getD i dflt = f i := fun i h => by simp [List.getD, h]
    refine ⟨some a, len, cap, (List.range len).map f, rfl, by simp, fun i => ?_, fun h => (by cases h), by omega, fun hn => ?_⟩
    · by_cases h : i < len
      · rw [hg i h]; exact (hfx i).1
      · rw [List.getD, List.getElem?_eq_none (by simp; omega)]; exact hP
    · obtain ⟨cs', hc, ht'⟩ := hi 0 (by omega)
      rw [hE] at hc
      obtain ⟨hlt0, hlen0, hget0⟩ := World.cells?_some hc
      have h00 := hget0 0 h0
      have hcs : cs'[0]? = some (cs'[0]'(by omega)) := List.getElem?_eq_getElem (by omega)
      rw [hcs] at h00
      obtain ⟨b, off, spot⟩ := a
      have hz : ((⟨b, off, spot⟩ : Addr).add (0 * E)).add 0 = (⟨b, off, spot⟩ : Addr) := by simp [Addr.add]
      rw [hz] at h00
      have hspot : spot = none := by simpa [Addr.add] using World.cell?_spot h00
      subst hspot
      refine ⟨b, off, rfl, World.block_lt_of_cell? W _ h00, fun i hlt j hj => ?_⟩
      rw [hg i hlt]
      have hc := (hfx i).2 hlt j hj
      rw [Addr.add_lit, ← Nat.add_assoc] at hc
      exact hc
theorem open_list {α : Type} (dflt : α) (ce : α → List Value) (Pd : α → Prop) (hP : Pd dflt) {t e : TypeId} {E : Nat} (ht : P.underlying t = some (.slice e)) (hE : P.cellsOf e = E) (h0 : 0 < E)
    (hread : ∀ (n : Nat) (cs : List Value) (y : DataW H × List MemPlace), DataW.trod enc P W 0 (fun _ => true) true n e cs = some y → ∃ d : α, cs = ce d ∧ Pd d)
    {v : Value} {d : DataW H} {p : List MemPlace} (hv : Value.okWide P W .any base t v) (h : DataW.Trod enc P W 0 (fun _ => true) true t v d p) :
    ∃ (A : Option Addr) (n c : Nat) (ds : List α), v = .slice A n c ∧ ds.length = n ∧ (∀ i, Pd (ds.getD i dflt)) ∧ (A = none → c = 0) ∧ n ≤ 9223372036854775807 ∧
      (0 < n → ∃ b off, A = some ⟨b, off, none⟩ ∧ b < W.heap.size ∧ ∀ i, i < n → ∀ j, j < E → W.cell? ⟨b, off + i * E + j, none⟩ = (ce (ds.getD i dflt))[j]?) :=
  open_listS dflt ce Pd hP ht hE h0 hread (okWide_slice ht hv) h
/-- a struct's fields, each by itself. -/
theorem trod_parts {t : TypeId} {sh : List (TypeId × Nat × Nat)} (hsh : ((P.underlying t).bind fun d => match d with | .struct fs => some (fs.toList.map fun f => (f.type, f.offset, P.cellsOf f.type)) | _ => none) = some sh)
    {n : Nat} {cs : List Value} {y : DataW H × List MemPlace} {sp : Nat → Bool} (h : DataW.trod enc P W 0 sp true n t cs = some y) :
    cs.length = P.cellsOf t ∧ ∀ (i : Nat) (ty : TypeId) (off k : Nat), sh[i]? = some (ty, off, k) → ∃ (m : Nat) (x : DataW H × List MemPlace), DataW.trod enc P W 0 sp true m ty ((cs.drop off).take k) = some x := by
  cases hu : P.underlying t with
  | none => rw [hu] at hsh; cases hsh
  | some d =>
    rw [hu] at hsh
    cases d <;> simp at hsh
    rename_i fs
    obtain ⟨xs, m, _, _, hlen, hxl, hf⟩ := DataW.trod_struct hu h
    refine ⟨hlen, fun i ty off k hi => ?_⟩
    subst hsh
    rw [List.getElem?_map] at hi
    cases hfi : fs.toList[i]? with
    | none => rw [hfi] at hi; cases hi
    | some f =>
      rw [hfi] at hi
      simp at hi
      obtain ⟨rfl, rfl, rfl⟩ := hi
      have hfi' : fs[i]? = some f := by rw [← hfi]; simp
      have h1 := hf i f hfi'
      have hlt : i < fs.size := (Array.getElem?_eq_some_iff.1 hfi').1
      exact ⟨m, xs[i]'(by omega), h1.trans (List.getElem?_eq_getElem (by omega))⟩
theorem part_int {n : Nat} {u : Value} {y : DataW H × List MemPlace} {sp : Nat → Bool} {t : TypeId} (ht : P.underlying t = some (.int .i64)) (h : DataW.trod enc P W 0 sp true n t [u] = some y) : ∃ z, u = .int .i64 z ∧ -9223372036854775808 ≤ z ∧ z ≤ 9223372036854775807 := by
  obtain ⟨z, e, _, hw⟩ := DataW.trod_int ht h
  have h1 : IntKind.i64.min = -9223372036854775808 := by decide
  exact ⟨z, by simpa using e, by simpa [Lit.wf, h1] using hw⟩
theorem part_bool {n : Nat} {u : Value} {y : DataW H × List MemPlace} {sp : Nat → Bool} {t : TypeId} (ht : P.underlying t = some .bool) (h : DataW.trod enc P W 0 sp true n t [u] = some y) : ∃ z, u = .bool z := by
  obtain ⟨z, e, _⟩ := DataW.trod_bool ht h
  exact ⟨z, by simpa using e⟩
end
end Go.Proofs.Ytdjenakmdjiknaa
end

/-! What the texts of num and of bits both lean on. -/
section
namespace Go.Proofs.Ytdjenakmdjiknaa
open Go.ChangeShapes Go.WideShapes Go.ChangeAt Go.RowKit
set_option linter.unusedVariables false

/-- a number of 64 bits. -/
def I64 (a : Int) : Prop := -9223372036854775808 ≤ a ∧ a ≤ 9223372036854775807
theorem i64_of_wf {a : Int} (h : (Lit.int .i64 a).wf = true) : I64 a := by
  have h1 : IntKind.i64.min = -9223372036854775808 := by decide
  simpa [Lit.wf, I64, h1] using h

end Go.Proofs.Ytdjenakmdjiknaa
end

/-! MEMORY THAT A CALL MADE: a block known whole (Box), what may have turned (Grow, and the library's grownBy), rows of the call's own that move on. -/
section
namespace Go.Proofs.Ytdjenakmdjiknaa
open Go.ChangeShapes Go.WideShapes Go.ChangeAt Go.RowKit
set_option linter.unusedVariables false

section
variable {w w' : World} {g : Nat} {t : TypeId} {cs : Array Value}
/-- block g holds just these cells. -/
def Box (w : World) (g : Nat) (t : TypeId) (cs : Array Value) : Prop := w.heap[g]? = some (.cells cs t (0, 0))
theorem Box.small (h : Box w g t cs) : g < w.heap.size := (Array.getElem?_eq_some_iff.1 h).1
theorem Box.get (h : Box w g t cs) (i : Nat) : w.cell? ⟨g, i, none⟩ = cs[i]? := cell_of_row w g i cs t (0, 0) h
theorem Box.free (h : Box w g t cs) (i : Nat) : w.frozen? ⟨g, i, none⟩ = false := by
  have h' : w.heap[g]? = some (.cells cs t (0, 0)) := h
  simp [World.frozen?, h']
theorem Box.grown {row : Option Nat} (h : Box w g t cs) (hg : w.grownBy w' row) (hne : some g ≠ row) : Box w' g t cs := (hg.block g h.small hne).trans h
theorem Box.fresh (w : World) (t : TypeId) (cs : Array Value) : Box (w.alloc (.cells cs t)) w.heap.size t cs := heap_alloc_new w _
theorem Box.alloc (h : Box w g t cs) (o : Obj) : Box (w.alloc o) g t cs := (Below.heap_alloc w o g h.small).trans h
theorem Box.drewN (h : Box w g t cs) (n : Nat) : Box (w.drewN n) g t cs := h
theorem Box.put (h : Box w g t cs) (i : Nat) (u : Value) : Box (w.setCell ⟨g, i, none⟩ u) g t (cs.setIfInBounds i u) := by
  have h' : w.heap[g]? = some (.cells cs t (0, 0)) := h
  show (w.setCell ⟨g, i, none⟩ u).heap[g]? = _
  simp [World.setCell, Array.getElem?_modify, h']
theorem Box.apart {g' : Nat} {t' : TypeId} {cs' : Array Value} (h : Box w g t cs) (h' : Box w g' t' cs') (hne : t ≠ t') : g ≠ g' := by
  intro e
  subst e
  have := h.symm.trans h'
  injection this with this
  injection this with _ ht
  exact hne ht
theorem own_apart {base : Nat} {e : TypeId} {size n : Nat} {v : Value} {xs : List Value} (h : w.ownsRow base e size v n xs) (hb : Box w g t cs) (hne : e ≠ t) : v.ownBlock ≠ some g := by
  rcases h.2 with ⟨rfl, _⟩ | ⟨k, cap, cur, rfl, _, hk, _⟩
  · simp [Value.ownBlock]
  · intro he
    have : k = g := by simpa [Value.ownBlock] using he
    subst this
    exact Box.apart (t := e) hk hb hne rfl
end

theorem own_own_apart {w : World} {b b' : Nat} {e e' : TypeId} {s s' n n' : Nat} {v v' : Value} {xs xs' : List Value} (h : w.ownsRow b e s v n xs) (h' : w.ownsRow b' e' s' v' n' xs') (hne : e ≠ e') : v.ownBlock = none ∨ v.ownBlock ≠ v'.ownBlock := by
  rcases h.2 with ⟨rfl, _⟩ | ⟨k, _, cur, rfl, _, hk, _⟩
  · exact .inl rfl
  · exact .inr (Ne.symm (own_apart (g := k) (t := e) (cs := cur) h' hk (Ne.symm hne)))
theorem map_own (A : Option Addr) (k c : Nat) : (Value.slice A k c).ownBlock = A.map (·.block) := by cases A <;> rfl

/-! ### what may have turned -/
section
variable {a b c w w' : World} {r s : Option Nat}
theorem grown_refl (w : World) (r : Option Nat) : w.grownBy w r := ⟨rfl, rfl, rfl, Nat.le_refl _, fun _ _ _ => rfl⟩
theorem grown_join (h : a.grownBy b r) (k : b.grownBy c s) (hs : s = r ∨ ∀ x, s = some x → a.heap.size ≤ x) : a.grownBy c r :=
  ⟨k.os.trans h.os, k.tape.trans h.tape, k.output.trans h.output, Nat.le_trans h.size k.size, fun x hx hne =>
    (k.block x (Nat.lt_of_lt_of_le hx h.size) (fun e => by
      rcases hs with hs | hs
      · exact hne (e.trans hs)
      · have := hs x e.symm; omega)).trans (h.block x hx hne)⟩
theorem grown_more (h : a.grownBy b none) (r : Option Nat) : a.grownBy b r := ⟨h.os, h.tape, h.output, h.size, fun x hx _ => h.block x hx (by simp)⟩
theorem grown_drewN (h : a.grownBy b r) (n : Nat) : a.grownBy (b.drewN n) r := ⟨h.os, h.tape, h.output, h.size, h.block⟩
theorem grown_drew (h : a.grownBy b r) : a.grownBy b.drew r := ⟨h.os, h.tape, h.output, h.size, h.block⟩
theorem grown_alloc (h : a.grownBy b r) (o : Obj) : a.grownBy (b.alloc o) r := grown_join h (World.grownBy_alloc b o none) (.inr (by simp))
theorem grown_store (h : a.grownBy b r) {p : Addr} (hp : some p.block = r ∨ a.heap.size ≤ p.block) (u : Value) : a.grownBy (b.setCell p u) r := by
  refine ⟨h.os, h.tape, h.output, by simpa [World.setCell] using h.size, fun x hx hne => (Below.heap_setCell b p u x ?_).trans (h.block x hx hne)⟩
  intro e
  subst e
  rcases hp with hp | hp
  · exact hne hp
  · omega
theorem grown_put (h : a.grownBy b r) {q j : Nat} (hq : some q = r ∨ a.heap.size ≤ q) (u : Value) : a.grownBy (b.setCell ⟨q, j, none⟩ u) r := grown_store (p := ⟨q, j, none⟩) h hq u
theorem below_of_grown (h : a.grownBy b none) : Below a.heap.size a b := ⟨h.os, h.tape, h.output, h.size, fun x hx => h.block x hx (by simp)⟩
theorem grown_of_below (h : Below a.heap.size a b) : a.grownBy b none := ⟨h.os, h.tape, h.output, h.size, fun x hx _ => h.block x hx⟩
theorem below_of_grown_row {B : Nat} (h : a.grownBy b r) (hB : B ≤ a.heap.size) (hr : ∀ x, r = some x → B ≤ x) : Below B a b :=
  ⟨h.os, h.tape, h.output, h.size, fun x hx => h.block x (by omega) (fun e => by have := hr x e.symm; omega)⟩
theorem own_lower {base base' : Nat} {e : TypeId} {size n : Nat} {v : Value} {xs : List Value} (h : w.ownsRow base e size v n xs) (hb : base' ≤ base) : w.ownsRow base' e size v n xs := by
  refine ⟨h.1, ?_⟩
  rcases h.2 with hn | ⟨k, cap, cur, hv, hk, rest⟩
  · exact .inl hn
  · exact .inr ⟨k, cap, cur, hv, by omega, rest⟩
theorem own_form {base : Nat} {e : TypeId} {size n m c : Nat} {A : Option Addr} {xs : List Value} (h : w.ownsRow base e size (.slice A m c) n xs) (h0 : 0 < n) :
    ∃ k, A = some ⟨k, 0, none⟩ ∧ base ≤ k ∧ k < w.heap.size ∧ m = n ∧ n ≤ c := by
  rcases h.2 with ⟨_, hn⟩ | ⟨k, cap, cur, hv, hb, hk, hc, _⟩
  · omega
  · injection hv with e1 e2 e3
    exact ⟨k, e1, hb, (Array.getElem?_eq_some_iff.1 hk).1, e2, by omega⟩
end

/-! ### slices that are only read -/
/-- the slice at A holds the cells f 0 .. f (n - 1), below block B. -/
def Sees (w : World) (B : Nat) (A : Option Addr) (n : Nat) (f : Nat → Value) : Prop :=
  0 < n → ∃ b off, A = some ⟨b, off, none⟩ ∧ b < B ∧ ∀ k, k < n → w.cell? ⟨b, off + k, none⟩ = some (f k)
section
variable {w w' : World} {B B' n : Nat} {A : Option Addr} {f : Nat → Value}
theorem Sees.at_ (h : Sees w B A n f) {k : Nat} (hk : k < n) : ∃ b off, A = some ⟨b, off, none⟩ ∧ b < B ∧ w.cell? ⟨b, off + k, none⟩ = some (f k) := by
  obtain ⟨b, off, e, hb, hc⟩ := h (by omega)
  exact ⟨b, off, e, hb, hc k hk⟩
theorem Sees.keep (h : Sees w B A n f) (hk : ∀ p : Addr, p.block < B → w'.cell? p = w.cell? p) : Sees w' B A n f := fun h0 => by
  obtain ⟨b, off, e, hb, hc⟩ := h h0
  exact ⟨b, off, e, hb, fun k hk' => (hk _ hb).trans (hc k hk')⟩
theorem Sees.more (h : Sees w B A n f) (hB : B ≤ B') : Sees w B' A n f := fun h0 => by
  obtain ⟨b, off, e, hb, hc⟩ := h h0
  exact ⟨b, off, e, by omega, hc⟩
theorem Sees.below (h : Sees w B A n f) (hb : Below B w w') : Sees w' B A n f := h.keep fun _ hp => hb.cell hp
theorem Sees.grown {r : Option Nat} (h : Sees w B A n f) (hg : w.grownBy w' r) (hB : B ≤ w.heap.size) (hr : ∀ x, r = some x → B ≤ x) : Sees w' B A n f :=
  h.below (below_of_grown_row hg hB hr)
theorem Sees.drewN (h : Sees w B A n f) (m : Nat) : Sees (w.drewN m) B A n f := h
theorem Sees.of_own {base : Nat} {e : TypeId} {c : Nat} {xs : List Value} {d : Value} (h : w.ownsRow base e 1 (.slice A n c) n xs) : Sees w w.heap.size A n (fun k => xs.getD k d) := fun h0 => by
  obtain ⟨k, rfl, _, hlt, _⟩ := own_form h h0
  refine ⟨k, 0, rfl, hlt, fun j hj => ?_⟩
  rw [Nat.zero_add, h.cellAt j (by omega)]
  have : j < xs.length := by rw [h.1]; omega
  simp [List.getD, this]
end

theorem own_grow {w w' : World} {base : Nat} {e : TypeId} {size n : Nat} {v : Value} {xs : List Value} (h : w.ownsRow base e size v n xs) (hg : w.grownBy w' none) : w'.ownsRow base e size v n xs := h.kept hg (by cases v.ownBlock <;> simp)
def Here (w : World) : Prop := w.os = w.os
theorem here (w : World) : Here w := rfl
end Go.Proofs.Ytdjenakmdjiknaa
end

/-! SLICES OF WHOLE NUMBERS: read, and of the call's own. -/
section
namespace Go.Proofs.Ytdjenakmdjiknaa
open Go.ChangeShapes Go.WideShapes Go.ChangeAt Go.RowKit
set_option linter.unusedVariables false

/-- the slice at A holds these numbers, below block B. -/
def Nums (w : World) (B : Nat) (A : Option Addr) (n : Nat) (zs : List Int) : Prop := zs.length = n ∧ Sees w B A n fun k => .int .i64 (zs.getD k 0)
/-- the row of numbers at A is the call's own, from block base on. -/
def intV (zs : List Int) : List Value := zs.map (Value.int .i64)
def OwnI (w : World) (base : Nat) (A : Option Addr) (n c : Nat) (zs : List Int) : Prop := zs.length = n ∧ w.ownsRow base 3 1 (.slice A n c) n (intV zs)
theorem intV_length (zs : List Int) : (intV zs).length = zs.length := by simp [intV]
theorem intV_get (zs : List Int) (i : Nat) (h : i < zs.length) : (intV zs)[i]? = some (.int .i64 (zs.getD i 0)) := by simp [intV, List.getD, h]
theorem intV_one (zs : List Int) : ∀ u ∈ intV zs, u.oneCell' = true := by
  intro u hu
  unfold intV at hu
  rw [List.mem_map] at hu
  obtain ⟨z, _, rfl⟩ := hu
  rfl
theorem intV_snoc (zs : List Int) (z : Int) : intV (zs ++ [z]) = intV zs ++ [.int .i64 z] := by simp [intV]
theorem intV_set (zs : List Int) (i : Nat) (z : Int) : (intV zs).set i (.int .i64 z) = intV (zs.set i z) := by
  unfold intV
  rw [List.map_set]
section
variable {w w' : World} {B B' base n c : Nat} {A : Option Addr} {zs : List Int}
theorem Nums.below (h : Nums w B A n zs) (hb : Below B w w') : Nums w' B A n zs := ⟨h.1, h.2.below hb⟩
theorem Nums.more (h : Nums w B A n zs) (hB : B ≤ B') : Nums w B' A n zs := ⟨h.1, h.2.more hB⟩
theorem Nums.drewN (h : Nums w B A n zs) (m : Nat) : Nums (w.drewN m) B A n zs := h
theorem Nums.grow (h : Nums w w.heap.size A n zs) (hg : w.grownBy w' none) : Nums w' w'.heap.size A n zs := (h.below (below_of_grown hg)).more hg.size
theorem Nums.keep (h : Nums w B A n zs) (hg : w.grownBy w' none) (hB : B ≤ w.heap.size) : Nums w' B A n zs := h.below (below_of_grown_row hg hB (by simp))
theorem Nums.nil (w : World) (B : Nat) : Nums w B none 0 [] := ⟨rfl, fun h => absurd h (by omega)⟩
theorem OwnI.nums (h : OwnI w base A n c zs) : Nums w w.heap.size A n zs := by
  refine ⟨h.1, fun h0 => ?_⟩
  obtain ⟨r, rfl, _, hl, _, _⟩ := own_form h.2 h0
  refine ⟨r, 0, rfl, hl, fun k hk => ?_⟩
  rw [Nat.zero_add, h.2.cellAt k (by omega)]
  exact intV_get zs k (by rw [h.1]; exact hk)
theorem OwnI.grow (h : OwnI w base A n c zs) (hg : w.grownBy w' none) : OwnI w' base A n c zs := ⟨h.1, own_grow h.2 hg⟩
theorem OwnI.lower (h : OwnI w base A n c zs) (hb : B ≤ base) : OwnI w B A n c zs := ⟨h.1, own_lower h.2 hb⟩
theorem OwnI.drewN (h : OwnI w base A n c zs) (m : Nat) : OwnI (w.drewN m) base A n c zs := h
theorem OwnI.nil (w : World) (base : Nat) : OwnI w base none 0 0 [] := ⟨rfl, World.ownsRow_nil _ _ _ _⟩
theorem OwnI.at_ (h : OwnI w base A n c zs) {i : Nat} (hi : i < n) : ∃ r, A = some ⟨r, 0, none⟩ ∧ base ≤ r ∧ w.cell? ⟨r, i, none⟩ = some (.int .i64 (zs.getD i 0)) ∧ w.frozen? ⟨r, i, none⟩ = false := by
  obtain ⟨r, rfl, hb, _, _, _⟩ := own_form h.2 (by omega)
  refine ⟨r, rfl, hb, ?_, h.2.frozenAt i⟩
  rw [h.2.cellAt i (by omega)]
  exact intV_get zs i (by rw [h.1]; exact hi)
theorem OwnI.put {r : Nat} (h : OwnI w base (some ⟨r, 0, none⟩) n c zs) (i : Nat) (z : Int) : OwnI (w.setCell ⟨r, i, none⟩ (.int .i64 z)) base (some ⟨r, 0, none⟩) n c (zs.set i z) := by
  refine ⟨by rw [List.length_set]; exact h.1, ?_⟩
  have := (h.2.stored i (.int .i64 z)).1
  rw [intV_set] at this
  exact this
theorem own_slice1 {e : TypeId} {size : Nat} {v : Value} {xs : List Value} (h : w.ownsRow base e size v n xs) : ∃ A c, v = .slice A n c := by
  rcases h.2 with ⟨rfl, rfl⟩ | ⟨k, cap, cur, rfl, _⟩
  · exact ⟨_, _, rfl⟩
  · exact ⟨_, _, rfl⟩
theorem new_cell1 (w : World) (v : Value) (t : TypeId) : ∀ j u, [v][j]? = some u → (w.alloc (.cells #[v] t)).cell? ((⟨w.heap.size, 0, none⟩ : Addr).add j) = some u := by
  intro j u hu
  match j, hu with
  | 0, hu =>
    rw [Addr.add_lit, cell_of_row _ _ _ _ _ _ (heap_alloc_new w _)]
    exact hu
/-- the cells of a slice that is read, as a source of append. -/
theorem Nums.src {b off : Nat} (h : Nums w B (some ⟨b, off, none⟩) n zs) : ∀ j u, (intV zs)[j]? = some u → w.cell? ((⟨b, off, none⟩ : Addr).add j) = some u := by
  intro j u hu
  have hj : j < zs.length := by rw [← intV_length]; exact (List.getElem?_eq_some_iff.1 hu).1
  obtain ⟨b', off', e, _, hc⟩ := h.2 (by have := h.1; omega)
  injection e with e; injection e with e1 e2
  subst e1; subst e2
  rw [Addr.add_lit, hc j (by have := h.1; omega), ← intV_get zs j hj, hu]
end
theorem info_int : (Try.prog.info? 3).map (fun i => (i.zero, i.size, i.bytes)) = some (some (.int .i64 0), 1, 8) := by kernel_rfl
/-- a row of these numbers is told, new. -/
def GaveInts (zs : List Int) (w : World) (e : Ending) (w' : World) : Prop := ∃ A c, e = .returned (.slice A zs.length c) ∧ OwnI w' w.heap.size A zs.length c zs ∧ w.grownBy w' none
def GaveIntsB (zs : List Int) (b : Bool) (w : World) (e : Ending) (w' : World) : Prop := ∃ A c, e = .returned (.tuple #[.slice A zs.length c, .bool b]) ∧ OwnI w' w.heap.size A zs.length c zs ∧ w.grownBy w' none
/-- v is told; only drawn. -/
def ToldV (v : Value) (w : World) (e : Ending) (w' : World) : Prop := e = .returned v ∧ ∃ m, w' = w.drewN m
theorem toldV_eq {v v' : Value} (h : v = v') (w : World) (m : Nat) : ToldV v w (.returned v') (w.drewN m) := ⟨by rw [h], m, rfl⟩
end Go.Proofs.Ytdjenakmdjiknaa
end

/-! WHAT COMES IN of layer 4: slices of whole numbers. -/
section
namespace Go.Proofs.Ytdjenakmdjiknaa
open Go.ChangeShapes Go.WideShapes Go.ChangeAt Go.RowKit Go.Deep
set_option linter.unusedVariables false
set_option maxRecDepth 100000

section
variable {H : Type} {enc : TypeId × Value → H} {W : World} {base : Nat}
theorem int_cells : Try.prog.cellsOf 3 = 1 := by kernel_rfl
theorem part_one {n : Nat} {cs : List Value} {y : DataW H × List MemPlace} {sp : Nat → Bool} (h : DataW.trod enc Try.prog W 0 sp true n 3 cs = some y) : ∃ z : Int, cs = [.int .i64 z] ∧ I64 z := by
  obtain ⟨z, e, _, hw⟩ := DataW.trod_int Try.underlying3 h
  have h1 : IntKind.i64.min = -9223372036854775808 := by decide
  exact ⟨z, by simpa using e, by simpa [Lit.wf, h1, I64] using hw⟩
theorem open_cap {t e : TypeId} {A : Option Addr} {n c : Nat} {d : DataW H} {p : List MemPlace} (ht : Try.prog.underlying t = some (.slice e)) (h : DataW.Trod enc Try.prog W 0 (fun _ => true) true t (.slice A n c) d p) : n ≤ c := by
  obtain ⟨fuel, hf⟩ := h
  rcases open_slice ht hf with ⟨hcs, _⟩ | ⟨a, len', cap', m, nf, D, Pl, hcs, _, hl, _⟩
  · simp [Value.cells] at hcs
    omega
  · simp [Value.cells] at hcs
    omega
theorem open_Nums {v : Value} {d : DataW H} {p : List MemPlace} (hv : Value.okWide Try.prog W .any base 22 v) (h : DataW.Trod enc Try.prog W 0 (fun _ => true) true 22 v d p) :
    ∃ A n c l, v = .slice A n c ∧ Nums W W.heap.size A n l ∧ n ≤ 9223372036854775807 ∧ n ≤ c := by
  obtain ⟨A, n, c, ds, rfl, hl, _, hA, hn, hc⟩ := open_list (0 : Int) (fun z => [.int .i64 z]) I64 ⟨by decide, by decide⟩ Try.underlying22 int_cells (by omega) (fun _ _ _ h => part_one h) hv h
  refine ⟨A, n, c, ds, rfl, ⟨hl, fun h0 => ?_⟩, hn, open_cap Try.underlying22 h⟩
  obtain ⟨b, off, e, hb, hcell⟩ := hc h0
  refine ⟨b, off, e, hb, fun k hk => ?_⟩
  have := hcell k hk 0 (by omega)
  simpa using this
end
end Go.Proofs.Ytdjenakmdjiknaa
end

/-! SLICES OF WHOLE NUMBERS: append to a row of the call's own, from whatever source; the two cuts, of such a row and of one that is read. -/
section
namespace Go.Proofs.Ytdjenakmdjiknaa
open Go.ChangeShapes Go.WideShapes Go.ChangeAt Go.RowKit
set_option linter.unusedVariables false
set_option maxRecDepth 100000

/-! ### append to a row of the call's own, from whatever source -/
theorem run_append_ints {w : World} {base n c m c' B : Nat} {A A' : Option Addr} {xs ys : List Int} (hown : OwnI w base A n c xs) (hsrc : Nums w B A' m ys) (hnone : A' = none → m = 0 ∧ c' = 0) (hb : base ≤ w.heap.size) (hle : n + m ≤ 4194304) (ty : TypeId) :
    ∃ A1 c1 w1, (Builtin.append_ #[22, 22] ty #[.slice A n c, .slice A' m c']).run Try.prog w = .ok (.slice A1 (n + m) c1) w1 ∧ OwnI w1 base A1 (n + m) c1 (xs ++ ys) ∧ w.grownBy w1 (A.map (·.block)) := by
  obtain ⟨i0, hi, hz0, hz1, hz2⟩ := info_parts info_int
  cases A' with
  | none =>
    obtain ⟨rfl, rfl⟩ := hnone rfl
    have hrun := run_append_owned_none (P := Try.prog) (w := w) base 22 ty 3 i0 1 Try.underlying22 hi _ n _ hown.2
    have hy : ys = [] := List.eq_nil_of_length_eq_zero hsrc.1
    subst hy
    rw [Nat.add_zero, List.append_nil]
    exact ⟨A, c, w, hrun, hown, grown_refl _ _⟩
  | some ad =>
    have hnews : ∀ j u, (intV ys)[j]? = some u → w.cell? (ad.add j) = some u := by
      intro j u hu
      have hj : j < ys.length := by rw [← intV_length]; exact (List.getElem?_eq_some_iff.1 hu).1
      obtain ⟨b, o, e, _, hc⟩ := hsrc.2 (by have := hsrc.1; omega)
      injection e with e
      subst e
      rw [Addr.add_lit, hc j (by have := hsrc.1; omega), ← intV_get ys j hj, hu]
    obtain ⟨v', w', hr, h2, h3, h4, h5⟩ := run_append_own_at (P := Try.prog) (w := w) base 22 ty 3 i0 _ 1 8 Try.underlying22 hi hz0 hz1 hz2 rfl (by omega) _ n _ hown.2 ad m c' (intV ys) (by rw [intV_length, hsrc.1]; omega) hnews (intV_one _) (by simp only [maxLen]; omega) (by omega) hb
    obtain ⟨A1, c1, rfl⟩ := own_slice1 h2
    refine ⟨A1, c1, w', hr, ⟨by rw [List.length_append, hown.1, hsrc.1], ?_⟩, by rw [map_own] at h3; exact h3⟩
    have e : intV (xs ++ ys) = intV xs ++ intV ys := by simp [intV]
    rw [e]
    exact h2
/-- .. as one step of a region that draws its order. -/
theorem step_append_ints {ops : Array Oper} {o : Oper} {a : Act} {w : World} {K : Act → World → Prop} {Q : Exit → Act → World → Prop} {E : Prop} {base n c m c' B : Nat} {A A' : Option Addr} {xs ys : List Int} (hgd : o.guard = none) (d s : Operand)
    (ho : o.op = .call { callee := .builtin .append, args := #[d, s], argTypes := #[22, 22] }) (hd : a.eval d = .slice A n c) (hs : a.eval s = .slice A' m c') (hown : OwnI w base A n c xs) (hsrc : Nums w B A' m ys) (hnone : A' = none → m = 0 ∧ c' = 0) (hb : base ≤ w.heap.size) (hle : n + m ≤ 4194304)
    (hK : ∀ A1 c1 w1, Hid (OwnI w1 base A1 (n + m) c1 (xs ++ ys)) → Hid (w.grownBy w1 (A.map (·.block))) → K (a.put o.dst (.slice A1 (n + m) c1)) w1) : if Region.wanted o (yielded ops a.tmps) = true then Oper.wp Try.prog o a w K Q else E := by
  have hw : Region.wanted o (yielded ops a.tmps) = true := by simp [Region.wanted, hgd]
  rw [if_pos hw]
  obtain ⟨A1, c1, w1, hrun, h1, h2⟩ := run_append_ints hown hsrc hnone hb hle o.type
  unfold Oper.wp
  simp [execOp, ho, resolve, invoke, builtin, hd, hs, hrun, Result.andThen]
  exact hK _ _ _ (Lib.hid h1) (Lib.hid h2)

/-! ### the two cuts of a row of the call's own -/
theorem size_int (w : World) : (sizeOf (Try.prog.elem 22)).run Try.prog w = .ok 1 w := by kernel_rfl
theorem own_none {w : World} {base n c : Nat} {xs : List Int} (h : OwnI w base none n c xs) : n = 0 ∧ c = 0 := by
  rcases h.2.2 with ⟨e, h0⟩ | ⟨_, _, _, e, _⟩
  · injection e with _ _ e; exact ⟨h0, e⟩
  · cases e
theorem own_some {w : World} {base n c : Nat} {A : Addr} {xs : List Int} (h : OwnI w base (some A) n c xs) : ∃ r, A = ⟨r, 0, none⟩ ∧ r < w.heap.size ∧ n ≤ c := by
  rcases h.2.2 with ⟨e, _⟩ | ⟨g, cap, cur, e, _, hg, hc, _⟩
  · cases e
  · injection e with e1 _ e3
    injection e1 with e1
    subst e3
    exact ⟨g, e1, (Array.getElem?_eq_some_iff.1 hg).1, hc⟩
theorem own_head {w : World} {base n c k : Nat} {A : Option Addr} {xs : List Int} (h : OwnI w base A n c xs) (hk : k ≤ n) :
    ∃ A2 c2, (∀ w' : World, (Instr.slice 22 (.slice A n c) none (some (.int .i64 (k : Int))) none).run Try.prog w' = .ok (.slice A2 k c2) w') ∧ Nums w w.heap.size A2 k (xs.take k) ∧ (A2 = none → k = 0 ∧ c2 = 0) := by
  have hkc : k ≤ c := by
    cases A with
    | none => have := own_none h; omega
    | some A => obtain ⟨_, _, _, h1⟩ := own_some h; omega
  refine ⟨if c = 0 then A else A.map (·.add (0 * 1)), c, fun w' => ?_, ?_, ?_⟩
  · rw [run_slice_h (P := Try.prog) (w := w') (t := 22) (ht := Try.underlying22) (kh := .i64) (h := (k : Int)) (h0 := by omega) (h2 := by omega), size_int]
    simp only [Result.andThen, sliced, Int.toNat_natCast, Nat.sub_zero]
  · refine ⟨by rw [List.length_take, h.1]; omega, fun h0 => ?_⟩
    obtain ⟨b, o, e, hb, hc⟩ := h.nums.2 (by omega)
    rw [if_neg (by omega)]
    subst e
    refine ⟨b, o, by simp [Addr.add], hb, fun j hj => ?_⟩
    rw [hc j (by omega)]
    simp [List.getD, hj]
  · intro e
    cases A with
    | none => have := own_none h; omega
    | some A => split at e <;> simp at e
theorem own_tail {w : World} {base n c k : Nat} {A : Option Addr} {xs : List Int} (h : OwnI w base A n c xs) (hk : k ≤ n) :
    ∃ A2 c2, (∀ w' : World, (Instr.slice 22 (.slice A n c) (some (.int .i64 (k : Int))) none none).run Try.prog w' = .ok (.slice A2 (n - k) c2) w') ∧ Nums w w.heap.size A2 (n - k) (xs.drop k) ∧ (A2 = none → n - k = 0 ∧ c2 = 0) := by
  refine ⟨if c = k then A else A.map (·.add (k * 1)), c - k, fun w' => ?_, ?_, ?_⟩
  · rw [run_slice_l (P := Try.prog) (w := w') (t := 22) (ht := Try.underlying22) (kl := .i64) (l := (k : Int)) (h0 := by omega) (h1 := by omega), size_int]
    simp only [Result.andThen, sliced, Int.toNat_natCast]
  · refine ⟨by rw [List.length_drop, h.1], fun h0 => ?_⟩
    obtain ⟨b, o, e, hb, hc⟩ := h.nums.2 (by omega)
    subst e
    obtain ⟨_, _, _, h1⟩ := own_some h
    rw [if_neg (by omega)]
    refine ⟨b, o + k, by simp [Addr.add], hb, fun j hj => ?_⟩
    have := hc (k + j) (by omega)
    rw [show o + (k + j) = o + k + j by omega] at this
    rw [this]
    simp [List.getD, List.getElem?_drop]
  · intro e
    cases A with
    | none => have := own_none h; omega
    | some A => split at e <;> simp at e

/-! ### .. of a row that is read -/
/-- a slice that holds nothing may be nil: then it has no capacity. -/
theorem nums_head {w : World} {n c k : Nat} {A : Option Addr} {xs : List Int} (h : Nums w w.heap.size A n xs) (hn : n ≤ c) (hA : A = none → c = 0) (hk : k ≤ n) :
    ∃ A2 c2, (∀ w' : World, (Instr.slice 22 (.slice A n c) none (some (.int .i64 (k : Int))) none).run Try.prog w' = .ok (.slice A2 k c2) w') ∧ Nums w w.heap.size A2 k (xs.take k) ∧ (A2 = none → k = 0 ∧ c2 = 0) := by
  refine ⟨if c = 0 then A else A.map (·.add (0 * 1)), c, fun w' => ?_, ?_, ?_⟩
  · rw [run_slice_h (P := Try.prog) (w := w') (t := 22) (ht := Try.underlying22) (kh := .i64) (h := (k : Int)) (h0 := by omega) (h2 := by omega), size_int]
    simp only [Result.andThen, sliced, Int.toNat_natCast, Nat.sub_zero]
  · refine ⟨by rw [List.length_take, h.1]; omega, fun h0 => ?_⟩
    obtain ⟨b, o, e, hb, hc⟩ := h.2 (by omega)
    rw [if_neg (by omega)]
    subst e
    refine ⟨b, o, by simp [Addr.add], hb, fun j hj => ?_⟩
    rw [hc j (by omega)]
    simp [List.getD, hj]
  · intro e
    cases A with
    | none => have := hA rfl; omega
    | some A => split at e <;> simp at e
theorem nums_tail {w : World} {n c k : Nat} {A : Option Addr} {xs : List Int} (h : Nums w w.heap.size A n xs) (hn : n ≤ c) (hA : A = none → c = 0) (hk : k ≤ n) :
    ∃ A2 c2, (∀ w' : World, (Instr.slice 22 (.slice A n c) (some (.int .i64 (k : Int))) none none).run Try.prog w' = .ok (.slice A2 (n - k) c2) w') ∧ Nums w w.heap.size A2 (n - k) (xs.drop k) ∧ (A2 = none → n - k = 0 ∧ c2 = 0) := by
  refine ⟨if c = k then A else A.map (·.add (k * 1)), c - k, fun w' => ?_, ?_, ?_⟩
  · rw [run_slice_l (P := Try.prog) (w := w') (t := 22) (ht := Try.underlying22) (kl := .i64) (l := (k : Int)) (h0 := by omega) (h1 := by omega), size_int]
    simp only [Result.andThen, sliced, Int.toNat_natCast]
  · refine ⟨by rw [List.length_drop, h.1], fun h0 => ?_⟩
    obtain ⟨b, o, e, hb, hc⟩ := h.2 (by omega)
    subst e
    rw [if_neg (by omega)]
    refine ⟨b, o + k, by simp [Addr.add], hb, fun j hj => ?_⟩
    have := hc (k + j) (by omega)
    rw [show o + (k + j) = o + k + j by omega] at this
    rw [this]
    simp [List.getD, List.getElem?_drop]
  · intro e
    cases A with
    | none => have := hA rfl; omega
    | some A => split at e <;> simp at e
theorem ints_empty {w : World} {base g : Nat} (h : w.heap[g]? = some (.cells #[] 3 (0, 0))) (hb : base ≤ g) : OwnI w base (some ⟨g, 0, none⟩) 0 0 [] :=
  ⟨rfl, by rfl, .inr ⟨g, 0, #[], rfl, hb, h, Nat.le_refl _, by unfold maxLen; omega, by simp, by simp [intV]⟩⟩
theorem ints_one {w : World} {g : Nat} {z : Int} (h : w.cell? ⟨g, 0, none⟩ = some (.int .i64 z)) : Nums w w.heap.size (some ⟨g, 0, none⟩) 1 [z] :=
  ⟨rfl, fun _ => ⟨g, 0, rfl, World.block_lt_of_cell? w _ h, fun k hk => by
    obtain rfl : k = 0 := by omega
    exact h⟩⟩
theorem ints_as {w : World} {base n n' c : Nat} {A : Option Addr} {xs ys : List Int} (hn : n = n') (hx : xs = ys) (h : OwnI w base A n c xs) : OwnI w base A n' c ys := by subst hn; subst hx; exact h
/-- a row of numbers that make has made. -/
theorem ints_zeros (w : World) (m : Nat) (hm : m ≤ 2097152) : ∃ Z : Array Value, (∀ W : World, (Instr.makeSlice 22 (.int .i64 (m : Int)) (.int .i64 (m : Int))).run Try.prog W = .ok (.slice (some ⟨W.heap.size, 0, none⟩) m m) (W.alloc (.cells Z 3))) ∧
    ∀ (W : World) (base : Nat), base ≤ W.heap.size → OwnI (W.alloc (.cells Z 3)) base (some ⟨W.heap.size, 0, none⟩) m m (List.replicate m 0) := by
  obtain ⟨i0, hi, hz0, hz1, hz2⟩ := info_parts info_int
  have hZ : (madeCells (Value.int .i64 0).cells (m * i0.size)).toList = List.replicate m (.int .i64 0) := by
    rw [hz1]
    have hc : (Value.int .i64 0).cells = #[.int .i64 0] := rfl
    rw [hc]
    apply List.ext_getElem
    · simp [madeCells]
    · intro i h1 h2
      simp [madeCells, Nat.mod_one]
  refine ⟨madeCells (Value.int .i64 0).cells (m * i0.size), fun W => ?_, fun W base hb => ?_⟩
  · have h := run_make (P := Try.prog) W 22 3 i0 _ Try.underlying22 hi hz0 .i64 .i64 (m : Int) (m : Int) (by omega) (by omega) (by rw [hz2]; omega) (by omega)
    simpa using h
  · have hs : (madeCells (Value.int .i64 0).cells (m * i0.size)).size = m := by rw [← Array.length_toList, hZ, List.length_replicate]
    refine ⟨by simp, by simp [intV], .inr ⟨W.heap.size, m, _, rfl, hb, heap_alloc_new W _, Nat.le_refl _, by unfold maxLen; omega, by omega, ?_⟩⟩
    rw [hZ]
    simp [intV]
end Go.Proofs.Ytdjenakmdjiknaa
end

/-! SLICES OF WHOLE NUMBERS as a call takes and tells them: what they read as, and what a slice that is nil has. -/
section
namespace Go.Proofs.Ytdjenakmdjiknaa
open Go.ChangeShapes Go.WideShapes Go.ChangeAt Go.RowKit
set_option linter.unusedVariables false
set_option maxRecDepth 100000

/-- what a shape that is read has: a slice that holds no more than its capacity, and none that is nil has any. -/
def Fits (A : Option Addr) (n c : Nat) : Prop := n ≤ c ∧ (A = none → c = 0)
def TellG (v : Value) (w : World) (e : Ending) (w' : World) : Prop := e = .returned v ∧ w.grownBy w' none
/-- a slice is told that reads as these numbers. -/
def NumsF (w : World) (A : Option Addr) (n c : Nat) (zs : List Int) : Prop := Nums w w.heap.size A n zs ∧ Fits A n c
def GaveN (zs : List Int) (w : World) (e : Ending) (w' : World) : Prop := ∃ A n c, e = .returned (.slice A n c) ∧ NumsF w' A n c zs ∧ w.grownBy w' none
def GaveNB (zs : List Int) (b : Bool) (w : World) (e : Ending) (w' : World) : Prop := ∃ A n c, e = .returned (.tuple #[.slice A n c, .bool b]) ∧ NumsF w' A n c zs ∧ w.grownBy w' none
theorem NumsF.grow {w w' : World} {A : Option Addr} {n c : Nat} {zs : List Int} (h : NumsF w A n c zs) (hg : w.grownBy w' none) : NumsF w' A n c zs := ⟨h.1.grow hg, h.2⟩
theorem NumsF.len {w : World} {A : Option Addr} {n c : Nat} {zs : List Int} (h : NumsF w A n c zs) : zs.length = n := h.1.1
theorem OwnI.numsF {w : World} {base n c : Nat} {A : Option Addr} {zs : List Int} (h : OwnI w base A n c zs) : NumsF w A n c zs := by
  refine ⟨h.nums, ?_, ?_⟩
  · cases A with
    | none => have := own_none h; omega
    | some a => obtain ⟨_, _, _, h1⟩ := own_some h; exact h1
  · rintro rfl
    exact (own_none h).2
theorem GaveInts.tells {zs : List Int} {w w' : World} {e : Ending} (h : GaveInts zs w e w') : GaveN zs w e w' := by
  obtain ⟨A, c, rfl, ho, hg⟩ := h
  exact ⟨A, _, c, rfl, ho.numsF, hg⟩
theorem GaveIntsB.tells {zs : List Int} {b : Bool} {w w' : World} {e : Ending} (h : GaveIntsB zs b w e w') : GaveNB zs b w e w' := by
  obtain ⟨A, c, rfl, ho, hg⟩ := h
  exact ⟨A, _, c, rfl, ho.numsF, hg⟩
theorem ToldV.tells {v : Value} {w w' : World} {e : Ending} (h : ToldV v w e w') : TellG v w e w' := by
  obtain ⟨rfl, m, rfl⟩ := h
  exact ⟨rfl, grown_drewN (grown_refl _ _) _⟩
theorem TellG.same {v : Value} {w w' : World} {e : Ending} (h : e = .returned v ∧ w' = w) : TellG v w e w' := ⟨h.1, by rw [h.2]; exact grown_refl _ _⟩
theorem numsF_nil (w : World) : NumsF w none 0 0 [] := ⟨Nums.nil _ _, Nat.le_refl _, fun _ => rfl⟩
end Go.Proofs.Ytdjenakmdjiknaa
end

/-! WHAT COMES IN of layers 8 and 9: views, slices of whole numbers. -/
section
namespace Go.Proofs.Ytdjenakmdjiknaa
open Go.ChangeShapes Go.WideShapes Go.ChangeAt Go.RowKit Go.Deep
set_option linter.unusedVariables false
set_option maxRecDepth 100000

section
variable {H : Type} {enc : TypeId × Value → H} {W : World} {base : Nat}
theorem open_NumsS {v : Value} {d : DataW H} {p : List MemPlace} (hv : ∃ a l c, v = .slice a l c) (h : DataW.Trod enc Try.prog W 0 (fun _ => true) true 22 v d p) :
    ∃ A n c l, v = .slice A n c ∧ NumsF W A n c l ∧ (∀ z ∈ l, I64 z) := by
  obtain ⟨A, n, c, ds, rfl, hl, hI, hA, hn, hc⟩ := open_listS (0 : Int) (fun z => [.int .i64 z]) I64 ⟨by decide, by decide⟩ Try.underlying22 int_cells (by omega) (fun _ _ _ h => part_one h) hv h
  refine ⟨A, n, c, ds, rfl, ⟨⟨hl, fun h0 => ?_⟩, open_cap Try.underlying22 h, hA⟩, fun z hz => ?_⟩
  · obtain ⟨b, off, e, hb, hcell⟩ := hc h0
    refine ⟨b, off, e, hb, fun k hk => ?_⟩
    have := hcell k hk 0 (by omega)
    simpa using this
  · obtain ⟨i, hi, rfl⟩ := List.getElem_of_mem hz
    have := hI i
    simpa [List.getD, hi] using this
theorem open_Nums8 {v : Value} {d : DataW H} {p : List MemPlace} (hv : Value.okWide Try.prog W .any base 22 v) (h : DataW.Trod enc Try.prog W 0 (fun _ => true) true 22 v d p) :
    ∃ A n c l, v = .slice A n c ∧ NumsF W A n c l ∧ (∀ z ∈ l, I64 z) := open_NumsS (okWide_slice Try.underlying22 hv) h
/-- a field that is a slice of numbers. -/
theorem open_field {n : Nat} {u : Value} {y : DataW H × List MemPlace} (h : DataW.trod enc Try.prog W 0 (fun _ => true) true n 22 [u] = some y) :
    ∃ A m c l, u = .slice A m c ∧ NumsF W A m c l := by
  have hs : ∃ a l c, u = .slice a l c := by
    rcases open_slice Try.underlying22 h with ⟨hcs, _⟩ | ⟨a, len', cap', m, nf, D, Pl, hcs, _⟩
    · injection hcs with e _; exact ⟨_, _, _, e⟩
    · injection hcs with e _; exact ⟨_, _, _, e⟩
  have hT : DataW.Trod enc Try.prog W 0 (fun _ => true) true 22 u y.1 y.2 := by
    obtain ⟨a, l, c, rfl⟩ := hs
    exact ⟨n, h⟩
  obtain ⟨A, m, c, l, e, hN, _⟩ := open_NumsS hs hT
  exact ⟨A, m, c, l, e, hN⟩
theorem view_shape : ((Try.prog.underlying 24).bind fun d => match d with | .struct fs => some (fs.toList.map fun f => (f.type, f.offset, Try.prog.cellsOf f.type)) | _ => none) = some [(22, 0, 1), (22, 1, 1), (3, 2, 1)] := by kernel_rfl
theorem view_cells : Try.prog.cellsOf 24 = 3 := by kernel_rfl
theorem open_View {v : Value} {d : DataW H} {p : List MemPlace} (hv : Value.okWide Try.prog W .any base 24 v) (h : DataW.Trod enc Try.prog W 0 (fun _ => true) true 24 v d p) :
    ∃ A n c A' n' c' s t o, v = .agg #[.slice A n c, .slice A' n' c', .int .i64 o] ∧ NumsF W A n c s ∧ NumsF W A' n' c' t ∧ I64 o := by
  obtain ⟨cs, rfl, hsz⟩ := okWide_struct Try.underlying24 hv
  obtain ⟨fuel, hf⟩ := h
  obtain ⟨hl, hp⟩ := trod_parts view_shape hf
  rw [view_cells] at hl
  have hc : (Value.agg cs).cells.toList = cs.toList := rfl
  rw [hc] at hl hp
  obtain ⟨cl⟩ := cs
  match cl, hl with
  | [u0, u1, u2], _ =>
    obtain ⟨_, _, h0⟩ := hp 0 _ _ _ rfl
    obtain ⟨_, _, h1⟩ := hp 1 _ _ _ rfl
    obtain ⟨_, _, h2⟩ := hp 2 _ _ _ rfl
    obtain ⟨A, n, c, s, rfl, hs⟩ := open_field h0
    obtain ⟨A', n', c', t, rfl, ht⟩ := open_field h1
    obtain ⟨o, rfl, i0, i1⟩ := part_int Try.underlying3 h2
    exact ⟨A, n, c, A', n', c', s, t, o, rfl, hs, ht, ⟨i0, i1⟩⟩
end
end Go.Proofs.Ytdjenakmdjiknaa
end
