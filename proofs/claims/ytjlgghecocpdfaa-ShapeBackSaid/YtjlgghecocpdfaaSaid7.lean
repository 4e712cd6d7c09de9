/-
  Layer 7: the program's own shape tells what the walks ask of it.
-/
import Derived.Test.YtjlgghecocpdfaaPrm7
namespace Go.Proofs.Ytjlgghecocpdfaa
open Go.ChangeShapes Go.WideShapes Go.ChangeAt Go.RowKit
set_option linter.unusedVariables false

theorem says7 : ShapeSays where
  right := fun A n c s w h hn => (own7_right A n c _ s w h.1 hn).mono fun e w' h => TellG.same h
  size := fun A n c s most w h hn hm => (own7_size A n c _ s most w h.1 hn hm).mono fun e w' h => TellG.same h
  strides := fun A n c s w h hn => (own7_strides A n c s w h.1 hn).mono fun e w' h => h.tells
  has := fun A n c A' n' c' s t w h hn h' hn' => (own7_has A A' n c _ n' c' _ s t w h.1 h'.1 hn hn').mono fun e w' h => TellG.same h
  place := fun A n c A' n' c' s t w h hn h' hn' => own7_place A A' n c n' c' s t w h h' hn hn'
  at_ := fun A n c s p w h hn hp => (own7_at A n c s p w h hn).mono fun e w' h => h.tells
  without := fun A n c s x w h hn hx => (own7_without A n c s x w h hn).mono fun e w' h => h.tells
  with_ := fun A n c s x y w h hn hx hy => (own7_with A n c s x y w h hn).mono fun e w' h => h.tells
  permute := fun A n c A' n' c' s t w h hn h' hn' _ => (own7_permute A A' n c n' c' s t w h h' hn hn').mono fun e w' h => h.tells
  join := fun A n c A' n' c' s t w h hn h' hn' => (own7_join A A' n c n' c' s t w h h' hn hn').mono fun e w' h => h.tells
end Go.Proofs.Ytjlgghecocpdfaa
