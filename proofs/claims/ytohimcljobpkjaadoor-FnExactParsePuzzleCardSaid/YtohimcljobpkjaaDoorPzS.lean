/- Contracts: what is a puzzle, both sides. -/
import Derived.Test.YtohimcljobpkjaaDoorPzL
namespace Go.Proofs.YtohimcljobpkjaaDoor
open Go.RowKit
set_option maxRecDepth 100000

set_option maxHeartbeats 400000 in
theorem implIsPuzzle_any (A : Option Addr) (c : Nat) (ps : List Tri) (B : Nat) (w : World) (hr : RdF w B A c ps) (hB : B ≤ w.heap.size) (hn : ps.length ≤ 1048576) :
    Calls Tryd.prog 18 #[pzv A ps.length c] w (Plain (.bool (puzB ps)) w) := by
  have HR := Lib.hid (fun o => hr.below (below_alloc w o) hB)
  clear hr
  go_enter Tryd.func18, Tryd.ntmps18
  go_wp2_with fail
  refine (leftBy_any A c ps none 0 [] B _ (HR.out _) RdE.nil (by simp) (by simp; omega) (by simp) hn).mono ?_
  rintro e w1 ⟨hb, h | ⟨h, v, rfl, _⟩⟩
  · obtain ⟨h, rfl⟩ := h
    have H := Lib.hid h
    clear h
    go_wp2_with fail
    go_ret
    exact ⟨ret_bool H.out.symm, (below_alloc _ _).trans (hb.mono (by simp))⟩
  · have H := Lib.hid h
    clear h
    go_wp2_with fail
    go_ret
    exact ⟨ret_bool H.out.symm, (below_alloc _ _).trans (hb.mono (by simp))⟩

end Go.Proofs.YtohimcljobpkjaaDoor
