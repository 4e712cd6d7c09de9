/-
  LABELS: what they are, what a tuple's bytes tell, their one order. Plain: nothing of a program.
-/
import Derived.Test.YtfemfkiamipipaaBase
import Derived.Lib.Strings
namespace Go.Proofs.Ytfemfkiamipipaa
open Go
set_option linter.unusedVariables false

structure Lab where
  k : Int
  n : Int
  s : ByteArray
deriving DecidableEq
def noS : ByteArray := ByteArray.empty

/-! ### comparing by -1, 0, 1 -/
/-- c tells one order of the things for which p holds. -/
structure Tot {α : Type} (p : α → Prop) (c : α → α → Int) : Prop where
  kinds : ∀ x y, c x y = -1 ∨ c x y = 0 ∨ c x y = 1
  anti : ∀ x y, p x → p y → c y x = - c x y
  same : ∀ x y, p x → p y → (c x y = 0 ↔ x = y)
  trans : ∀ x y z, p x → p y → p z → c x y = -1 → c y z = -1 → c x z = -1
theorem Tot.up {α : Type} {p : α → Prop} {c : α → α → Int} (h : Tot p c) {x y z : α} (hx : p x) (hy : p y) (hz : p z) (h1 : c x y ≤ 0) (h2 : c y z ≤ 0) : c x z ≤ 0 := by
  rcases h.kinds x y with e1 | e1 | e1
  · rcases h.kinds y z with e2 | e2 | e2
    · have := h.trans x y z hx hy hz e1 e2; omega
    · have := (h.same y z hy hz).1 e2
      subst this; omega
    · omega
  · have := (h.same x y hx hy).1 e1
    subst this; omega
  · omega
theorem Tot.down {α : Type} {p : α → Prop} {c : α → α → Int} (h : Tot p c) {x y z : α} (hx : p x) (hy : p y) (hz : p z) (h1 : 0 ≤ c x y) (h2 : 0 ≤ c y z) : 0 ≤ c x z := by
  have a1 := h.anti x y hx hy
  have a2 := h.anti y z hy hz
  have a3 := h.anti x z hx hz
  have := h.up hz hy hx (by omega) (by omega)
  omega
/-- things of several classes: by the class, within one by its own order. -/
def classC {α : Type} (cls : α → Nat) (c : Nat → α → α → Int) (x y : α) : Int := if cls x < cls y then -1 else if cls y < cls x then 1 else c (cls x) x y
theorem tot_class {α : Type} {cls : α → Nat} {c : Nat → α → α → Int} (h : ∀ i, Tot (fun x => cls x = i) (c i)) : Tot (fun _ => True) (classC cls c) := by
  refine ⟨fun x y => ?_, fun x y _ _ => ?_, fun x y _ _ => ?_, fun x y z _ _ _ h1 h2 => ?_⟩
  · unfold classC
    split
    · exact .inl rfl
    · split
      · exact .inr (.inr rfl)
      · exact (h _).kinds x y
  · unfold classC
    rcases Nat.lt_trichotomy (cls x) (cls y) with e | e | e
    · rw [if_neg (by omega), if_pos e, if_pos e]; rfl
    · rw [if_neg (by omega), if_neg (by omega), if_neg (by omega), if_neg (by omega), e]
      exact (h _).anti x y e rfl
    · rw [if_pos e, if_neg (by omega), if_pos e]
  · unfold classC
    rcases Nat.lt_trichotomy (cls x) (cls y) with e | e | e
    · rw [if_pos e]
      exact ⟨fun h => absurd h (by omega), fun h => by subst h; omega⟩
    · rw [if_neg (by omega), if_neg (by omega)]
      exact (h _).same x y rfl e.symm
    · rw [if_neg (by omega), if_pos e]
      exact ⟨fun h => absurd h (by omega), fun h => by subst h; omega⟩
  · unfold classC at *
    rcases Nat.lt_trichotomy (cls x) (cls y) with e | e | e
    · rcases Nat.lt_trichotomy (cls y) (cls z) with e2 | e2 | e2
      · rw [if_pos (by omega)]
      · rw [if_pos (by omega)]
      · rw [if_neg (by omega), if_pos e2] at h2; omega
    · rw [if_neg (by omega), if_neg (by omega)] at h1
      rcases Nat.lt_trichotomy (cls y) (cls z) with e2 | e2 | e2
      · rw [if_pos (by omega)]
      · rw [if_neg (by omega), if_neg (by omega)] at h2
        rw [if_neg (by omega), if_neg (by omega)]
        exact (h _).trans x y z rfl e.symm (by omega) h1 (by rw [e]; exact h2)
      · rw [if_neg (by omega), if_pos e2] at h2; omega
    · rw [if_neg (by omega), if_pos e] at h1; omega
/-- lists, thing by thing; then the one that ends first is ahead. -/
def listC {α : Type} (c : α → α → Int) : List α → List α → Int
  | [], [] => 0
  | [], _ :: _ => -1
  | _ :: _, [] => 1
  | x :: a, y :: b => if c x y = 0 then listC c a b else c x y
theorem tot_list {α : Type} {c : α → α → Int} (h : Tot (fun _ => True) c) : Tot (fun _ => True) (listC c) := by
  have hself : ∀ x, c x x = 0 := fun x => (h.same x x trivial trivial).2 rfl
  refine ⟨?_, ?_, ?_, ?_⟩
  · intro x
    induction x with
    | nil => intro y; cases y <;> simp [listC]
    | cons a x ih =>
      intro y
      cases y with
      | nil => simp [listC]
      | cons b y =>
        unfold listC
        split
        · exact ih y
        · exact h.kinds a b
  · intro x
    induction x with
    | nil => intro y _ _; cases y <;> simp [listC]
    | cons a x ih =>
      intro y _ _
      cases y with
      | nil => simp [listC]
      | cons b y =>
        have ha := h.anti a b trivial trivial
        unfold listC
        by_cases e : c a b = 0
        · rw [if_pos e, if_pos (by omega)]
          exact ih y trivial trivial
        · rw [if_neg e, if_neg (by omega)]
          exact ha
  · intro x
    induction x with
    | nil => intro y _ _; cases y <;> simp [listC]
    | cons a x ih =>
      intro y _ _
      cases y with
      | nil => simp [listC]
      | cons b y =>
        unfold listC
        by_cases e : c a b = 0
        · rw [if_pos e, ih y trivial trivial]
          have := (h.same a b trivial trivial).1 e
          subst this
          exact ⟨fun h => by rw [h], fun h => by injection h⟩
        · rw [if_neg e]
          exact ⟨fun h => absurd h e, fun h2 => by
            injection h2 with h2 _
            exact absurd ((h.same a b trivial trivial).2 h2) e⟩
  · intro x
    induction x with
    | nil =>
      intro y z _ _ _ h1 h2
      cases y with
      | nil => simp [listC] at h1
      | cons b y =>
        cases z with
        | nil => simp [listC] at h2
        | cons d z => simp [listC]
    | cons a x ih =>
      intro y z _ _ _ h1 h2
      cases y with
      | nil => simp [listC] at h1
      | cons b y =>
        cases z with
        | nil => simp [listC] at h2
        | cons d z =>
          unfold listC at h1 h2 ⊢
          by_cases e1 : c a b = 0
          · rw [if_pos e1] at h1
            have := (h.same a b trivial trivial).1 e1
            subst this
            by_cases e2 : c a d = 0
            · rw [if_pos e2] at h2 ⊢
              exact ih y z trivial trivial trivial h1 h2
            · rw [if_neg e2] at h2 ⊢
              exact h2
          · rw [if_neg e1] at h1
            by_cases e2 : c b d = 0
            · have := (h.same b d trivial trivial).1 e2
              subst this
              rw [if_neg e1]
              exact h1
            · rw [if_neg e2] at h2
              have := h.trans a b d trivial trivial trivial h1 h2
              rw [if_neg (by omega)]
              exact this
theorem Tot.map {α β : Type} {p : β → Prop} {q : α → Prop} {c : β → β → Int} (h : Tot p c) (f : α → β) (hf : ∀ x, q x → p (f x)) (hi : ∀ x y, q x → q y → f x = f y → x = y) : Tot q (fun x y => c (f x) (f y)) :=
  ⟨fun x y => h.kinds _ _, fun x y hx hy => h.anti _ _ (hf x hx) (hf y hy), fun x y hx hy => (h.same _ _ (hf x hx) (hf y hy)).trans ⟨hi x y hx hy, fun e => by rw [e]⟩,
    fun x y z hx hy hz => h.trans _ _ _ (hf x hx) (hf y hy) (hf z hz)⟩
theorem Tot.weaken {α : Type} {p q : α → Prop} {c : α → α → Int} (h : Tot p c) (hq : ∀ x, q x → p x) : Tot q c :=
  ⟨h.kinds, fun x y hx hy => h.anti x y (hq x hx) (hq y hy), fun x y hx hy => h.same x y (hq x hx) (hq y hy), fun x y z hx hy hz => h.trans x y z (hq x hx) (hq y hy) (hq z hz)⟩

/-! ### texts, byte by byte -/
theorem less_irrefl (a : List UInt8) : Op.bytesLess a a = false := by
  induction a with
  | nil => rfl
  | cons x a ih => simp [Op.bytesLess, ih]
theorem less_trans : ∀ {a b c : List UInt8}, Op.bytesLess a b = true → Op.bytesLess b c = true → Op.bytesLess a c = true
  | _, [], _, h, _ => by cases ‹List UInt8› <;> simp [Op.bytesLess] at h
  | _, _ :: _, [], _, h => by simp [Op.bytesLess] at h
  | [], _ :: _, _ :: _, _, _ => rfl
  | x :: a, y :: b, z :: c, h, h' => by
    simp only [Op.bytesLess, Bool.or_eq_true, Bool.and_eq_true, decide_eq_true_eq, beq_iff_eq] at h h' ⊢
    rcases h with h | ⟨rfl, h⟩
    · rcases h' with h' | ⟨rfl, h'⟩
      · exact .inl (UInt8.lt_trans h h')
      · exact .inl h
    · rcases h' with h' | ⟨rfl, h'⟩
      · exact .inl h'
      · exact .inr ⟨rfl, less_trans h h'⟩
theorem less_total : ∀ (a b : List UInt8), Op.bytesLess a b = true ∨ a = b ∨ Op.bytesLess b a = true
  | [], [] => .inr (.inl rfl)
  | [], _ :: _ => .inl rfl
  | _ :: _, [] => .inr (.inr rfl)
  | x :: a, y :: b => by
    simp only [Op.bytesLess, Bool.or_eq_true, Bool.and_eq_true, decide_eq_true_eq, beq_iff_eq]
    rcases Nat.lt_trichotomy x.toNat y.toNat with h | h | h
    · exact .inl (.inl h)
    · have := UInt8.toNat_inj.1 h
      subst this
      rcases less_total a b with h1 | h1 | h1
      · exact .inl (.inr ⟨rfl, h1⟩)
      · exact .inr (.inl (by rw [h1]))
      · exact .inr (.inr (.inr ⟨rfl, h1⟩))
    · exact .inr (.inr (.inl h))
theorem less_anti {a b : List UInt8} (h : Op.bytesLess a b = true) : Op.bytesLess b a = false := by
  cases hb : Op.bytesLess b a
  · rfl
  · have := less_trans h hb
    rw [less_irrefl] at this
    exact this.symm

/-! ### by Kind, N, S -/
/-- is a ahead of b by Kind, N, S? -/
def ahead (a b : Lab) : Bool := decide (a.k ≠ b.k ∧ a.k < b.k ∨ a.k = b.k ∧ a.n < b.n) || (decide (a.k = b.k ∧ a.n = b.n) && Op.bytesLess a.s.toList b.s.toList)
def simC (a b : Lab) : Int := if ahead a b then -1 else if a = b then 0 else 1
theorem toList_inj {a b : ByteArray} (h : a.toList = b.toList) : a = b := by
  rw [Lib.toList_data, Lib.toList_data] at h
  cases a; cases b
  simp at h
  rw [h]
theorem ahead_iff (a b : Lab) : ahead a b = true ↔ a.k < b.k ∨ a.k = b.k ∧ (a.n < b.n ∨ a.n = b.n ∧ Op.bytesLess a.s.toList b.s.toList = true) := by
  unfold ahead
  rw [Bool.or_eq_true, Bool.and_eq_true, decide_eq_true_eq, decide_eq_true_eq]
  constructor
  · rintro ((⟨_, h⟩ | ⟨h1, h2⟩) | ⟨⟨h1, h2⟩, h3⟩)
    · exact .inl h
    · exact .inr ⟨h1, .inl h2⟩
    · exact .inr ⟨h1, .inr ⟨h2, h3⟩⟩
  · rintro (h | ⟨h1, h2 | ⟨h2, h3⟩⟩)
    · exact .inl (.inl ⟨by omega, h⟩)
    · exact .inl (.inr ⟨h1, h2⟩)
    · exact .inr ⟨⟨h1, h2⟩, h3⟩
theorem ahead_irrefl (a : Lab) : ahead a a = false := by
  cases h : ahead a a
  · rfl
  · rw [ahead_iff, less_irrefl] at h
    exact absurd h (by simp)
theorem ahead_trans {a b c : Lab} (h : ahead a b = true) (h' : ahead b c = true) : ahead a c = true := by
  rw [ahead_iff] at *
  rcases h with h | ⟨h1, h2 | ⟨h2, h3⟩⟩
  · rcases h' with h' | ⟨g1, _⟩
    · exact .inl (by omega)
    · exact .inl (by omega)
  · rcases h' with h' | ⟨g1, g2 | ⟨g2, g3⟩⟩
    · exact .inl (by omega)
    · exact .inr ⟨by omega, .inl (by omega)⟩
    · exact .inr ⟨by omega, .inl (by omega)⟩
  · rcases h' with h' | ⟨g1, g2 | ⟨g2, g3⟩⟩
    · exact .inl (by omega)
    · exact .inr ⟨by omega, .inl (by omega)⟩
    · exact .inr ⟨by omega, .inr ⟨by omega, less_trans h3 g3⟩⟩
theorem ahead_total (a b : Lab) : ahead a b = true ∨ a = b ∨ ahead b a = true := by
  rw [ahead_iff, ahead_iff]
  rcases Int.lt_trichotomy a.k b.k with h | h | h
  · exact .inl (.inl h)
  · rcases Int.lt_trichotomy a.n b.n with h2 | h2 | h2
    · exact .inl (.inr ⟨h, .inl h2⟩)
    · rcases less_total a.s.toList b.s.toList with h3 | h3 | h3
      · exact .inl (.inr ⟨h, .inr ⟨h2, h3⟩⟩)
      · refine .inr (.inl ?_)
        have := toList_inj h3
        cases a; cases b
        simp at h h2 this
        rw [h, h2, this]
      · exact .inr (.inr (.inr ⟨h.symm, .inr ⟨h2.symm, h3⟩⟩))
    · exact .inr (.inr (.inr ⟨h.symm, .inl h2⟩))
  · exact .inr (.inr (.inl h))
theorem ahead_anti {a b : Lab} (h : ahead a b = true) : ahead b a = false := by
  cases hb : ahead b a
  · rfl
  · have := ahead_trans h hb
    rw [ahead_irrefl] at this
    exact this.symm
theorem tot_sim : Tot (fun _ : Lab => True) simC := by
  have hlt : ∀ x y : Lab, simC x y = -1 ↔ ahead x y = true := fun x y => by
    unfold simC
    by_cases h : ahead x y = true
    · rw [if_pos h]; exact ⟨fun _ => h, fun _ => rfl⟩
    · rw [if_neg h]
      refine ⟨fun h2 => ?_, fun h2 => absurd h2 h⟩
      split at h2 <;> omega
  have heq : ∀ x y : Lab, simC x y = 0 ↔ x = y := fun x y => by
    unfold simC
    by_cases h : ahead x y = true
    · rw [if_pos h]
      exact ⟨fun h2 => absurd h2 (by omega), fun h2 => by subst h2; rw [ahead_irrefl] at h; cases h⟩
    · rw [if_neg h]
      by_cases e : x = y
      · rw [if_pos e]; exact ⟨fun _ => e, fun _ => rfl⟩
      · rw [if_neg e]; exact ⟨fun h2 => absurd h2 (by omega), fun h2 => absurd h2 e⟩
  refine ⟨fun x y => ?_, fun x y _ _ => ?_, fun x y _ _ => heq x y, fun x y z _ _ _ h1 h2 => (hlt x z).2 (ahead_trans ((hlt x y).1 h1) ((hlt y z).1 h2))⟩
  · unfold simC
    split
    · exact .inl rfl
    · split
      · exact .inr (.inl rfl)
      · exact .inr (.inr rfl)
  · unfold simC
    rcases ahead_total x y with h | h | h
    · rw [if_neg (by rw [ahead_anti h]; exact Bool.false_ne_true), if_neg (fun e => by subst e; rw [ahead_irrefl] at h; cases h), if_pos h]; rfl
    · subst h
      rw [if_neg (by rw [ahead_irrefl]; exact Bool.false_ne_true), if_pos rfl]; rfl
    · rw [if_pos h, if_neg (by rw [ahead_anti h]; exact Bool.false_ne_true), if_neg (fun e => by subst e; rw [ahead_irrefl] at h; cases h)]
end Go.Proofs.Ytfemfkiamipipaa
