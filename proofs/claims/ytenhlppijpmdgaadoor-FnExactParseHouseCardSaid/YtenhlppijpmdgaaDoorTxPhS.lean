/- Contracts: reading houses, the model's ParseHouse. -/
import Derived.Test.YtenhlppijpmdgaaDoorTxPh
import Derived.Test.YtenhlppijpmdgaaDoorHoNew
namespace Go.Proofs.YtenhlppijpmdgaaDoor
open Go.RowKit
set_option maxRecDepth 100000

def orH (b : Bool) (xs : List Int) : List Int := if b then xs else []
theorem orH_no (xs : List Int) : orH false xs = [] := rfl
theorem orH_yes (xs : List Int) : orH true xs = xs := rfl
theorem orH_lenA (s : ByteArray) : (orH (phB s) (phA s)).length ≤ 1048576 := by
  cases h : phB s
  · rw [orH_no]; simp
  · rw [orH_yes]; have := (goodW_of (ph_to h).1).n1; omega
theorem orH_lenD (s : ByteArray) : (orH (phB s) (phD s)).length ≤ 1048576 := by
  cases h : phB s
  · rw [orH_no]; simp
  · rw [orH_yes]; have := (goodW_of (ph_to h).1).n1; have := (goodW_of (ph_to h).1).nb; omega

set_option maxHeartbeats 2000000 in
theorem specParHo_any (s : ByteArray) (w : World) (hn : s.size ≤ 1048576) :
    Calls Tryd.prog 18 #[.string s] w (SomeHo (orH (phB s) (phA s)) (orH (phB s) (phD s)) (phB s) w) := by
  have LP := Lib.hid (fun u => ldParse_any s u hn)
  have lA := orH_lenA s
  have lD := orH_lenD s
  go_enter Tryd.func18, Tryd.ntmps18
  go_wp2_with fail
  refine (LP.out _).mono ?_
  rintro e w1 ⟨A, A', n, n', c, c', rfl, hb, hr⟩
  have X := (Blk.new w 38 #[.slice none 0 0, .slice none 0 0]).below hb (by simp)
  have Bt : Below w.heap.size w w1 := (below_alloc _ _).trans (hb.mono (by simp))
  have XA := X.alloc (.cells #[.slice A n c, .slice A' n' c'] 38)
  have BA := Bt.alloc (by have := X.lt; omega) (.cells #[.slice A n c, .slice A' n' c'] 38)
  obtain ⟨x0, x1⟩ := XA.two
  have f0 := XA.frozen 0
  have f1 := XA.frozen 1
  clear hb
  cases hB : phB s
  · have B0 := Lib.hid hB
    clear hr hB
    go_wp2_with fail
    have X2 : Blk (((w1.alloc (.cells #[.slice A n c, .slice A' n' c'] 38)).setCell ⟨w.heap.size, 0, none⟩ (.slice none 0 0)).setCell ⟨w.heap.size, 1, none⟩ (.slice none 0 0)) w.heap.size 38 #[.slice none 0 0, .slice none 0 0] := (XA.set_ 0 _).set_ 1 _
    obtain ⟨y0, y1⟩ := X2.two
    refine bodyPost_ret (v := .tuple #[.agg #[.slice none 0 0, .slice none 0 0], .bool false]) ?hr rfl ⟨none, none, 0, 0, by rw [B0.out]; rfl, by rw [B0.out]; exact (⟨Rd.nil, Rd.nil, by simp, by simp⟩ : Ho _ _ none none 0 0 [] []), ?_⟩
    (case hr => simp [results, Tryd.results18, go_sem, y0, y1])
    exact (BA.setCell (Nat.le_refl _) _).setCell (Nat.le_refl _) _
  · obtain ⟨rfl, rfl, o1, o2⟩ := hr hB
    have B0 := Lib.hid hB
    rw [hB] at lA lD
    clear hr hB
    have g1 : ∀ k, Value.ownBlock (.slice A (phA s).length c) = some k → k ≠ w.heap.size := fun k h e => by have h9 := (o1.lt k h).1; simp at h9; omega
    have g2 : ∀ k, Value.ownBlock (.slice A' (phD s).length c') = some k → k ≠ w.heap.size := fun k h e => by have h9 := (o2.lt k h).1; simp at h9; omega
    have q1 := ((o1.alloc (.cells #[.slice A (phA s).length c, .slice A' (phD s).length c'] 38)).turned (turned_setH _ w.heap.size 0 (.slice A (phA s).length c)) (fun k hk hm => g1 k hk (List.mem_singleton.1 hm))).turned (turned_setH _ w.heap.size 1 (.slice A' (phD s).length c')) (fun k hk hm => g1 k hk (List.mem_singleton.1 hm))
    have q2 := ((o2.alloc (.cells #[.slice A (phA s).length c, .slice A' (phD s).length c'] 38)).turned (turned_setH _ w.heap.size 0 (.slice A (phA s).length c)) (fun k hk hm => g2 k hk (List.mem_singleton.1 hm))).turned (turned_setH _ w.heap.size 1 (.slice A' (phD s).length c')) (fun k hk hm => g2 k hk (List.mem_singleton.1 hm))
    rw [orH_yes] at lA lD
    clear o1 o2 g1 g2
    generalize phA s = xs at *
    generalize phD s = ys at *
    go_wp2_with fail
    have X2 : Blk (((w1.alloc (.cells #[.slice A xs.length c, .slice A' ys.length c'] 38)).setCell ⟨w.heap.size, 0, none⟩ (.slice A xs.length c)).setCell ⟨w.heap.size, 1, none⟩ (.slice A' ys.length c')) w.heap.size 38 #[.slice A xs.length c, .slice A' ys.length c'] := (XA.set_ 0 _).set_ 1 _
    obtain ⟨y0, y1⟩ := X2.two
    refine bodyPost_ret (v := .tuple #[.agg #[.slice A xs.length c, .slice A' ys.length c'], .bool true]) ?hr rfl ⟨A, A', c, c', by rw [B0.out]; rfl, by rw [B0.out]; exact (⟨q1.rd, q2.rd, lA, lD⟩ : Ho _ _ A A' c c' xs ys), ?_⟩
    (case hr => simp [results, Tryd.results18, go_sem, y0, y1])
    exact (BA.setCell (Nat.le_refl _) _).setCell (Nat.le_refl _) _

end Go.Proofs.YtenhlppijpmdgaaDoor
