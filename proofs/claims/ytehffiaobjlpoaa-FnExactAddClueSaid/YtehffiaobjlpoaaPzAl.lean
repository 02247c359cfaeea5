/- Contract: the hidden stairs that fit some clues, in order, none sharing memory (the model). -/
import Derived.Test.YtehffiaobjlpoaaPzY
import Derived.Test.YtehffiaobjlpoaaPzZ
import Derived.Test.YtehffiaobjlpoaaPzF
namespace Go.Proofs.Ytehffiaobjlpoaa
open Go.RowKit
set_option maxRecDepth 100000

theorem fits_take {ps : List Tri} {k : Nat} (hk : k < ps.length) (r : Rc) : fitsB (ps.take (k + 1)) r = (fitsB (ps.take k) r && fitB (ps.getD k z3) r) := by
  rw [← fitsB_snoc, List.take_succ_eq_append_getElem hk, show ps.getD k z3 = ps[k] by simp [List.getD_eq_getElem?_getD, hk]]
theorem filt_len {L : Lr} {rs : List Rc} {f : Rc → Bool} (h : recL L = rs.filter f) (h2 : rs.length ≤ 1048575) : (elsL L).length ≤ 1048576 := by
  have h3 := List.length_filter_le f rs
  exact len_of_rec h (by omega)
theorem filt_yes {rs : List Rc} {f : Rc → Bool} {r : Rc} (h : f r = true) : (rs ++ [r]).filter f = rs.filter f ++ [r] := by simp [List.filter_append, h]
theorem filt_no {rs : List Rc} {f : Rc → Bool} {r : Rc} (h : f r = false) : (rs ++ [r]).filter f = rs.filter f := by simp [List.filter_append, h]

end Go.Proofs.Ytehffiaobjlpoaa
