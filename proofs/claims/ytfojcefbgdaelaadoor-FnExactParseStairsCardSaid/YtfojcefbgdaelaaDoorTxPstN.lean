/- Contracts: the numbers of a text, on the model side. -/
import Derived.Test.YtfojcefbgdaelaaDoorTxPst
import Derived.Deep.RegionHeld3
namespace Go.Proofs.YtfojcefbgdaelaaDoor
open Go.RowKit
set_option maxRecDepth 100000

set_option maxHeartbeats 2000000 in
theorem clNumbers_any (t : ByteArray) (w : World) (hn : t.size ≤ 1000) :
    Calls Tryd.prog 91 #[.string t] w fun e w' => ∃ v, e = .returned v ∧ OwnI w' w.heap.size v (rdL t 44) ∧ Below w.heap.size w w' := by
  have HSZ := Lib.hid (fun x hx => word_le t 44 x hx)
  have HRL := rdL_length t 44
  have SP := Lib.hid (fun u => l1Split_any t 44 u (by omega))
  have hlen : (splitS t 44).length = (rdL t 44).length := by simp [rdL]
  have HW := Lib.hid hlen
  have HG := Lib.hid (show ∀ k, k < (splitS t 44).length → (rdL t 44).take (k + 1) = (rdL t 44).take k ++ [rdI ((splitS t 44).getD k ⟨#[]⟩)] from fun k hk => by
    have hk2 : k < (rdL t 44).length := by omega
    rw [List.take_succ_eq_append_getElem hk2]
    simp [rdL, List.getD_eq_getElem?_getD, hk])
  clear hlen
  generalize hZ : rdL t 44 = zs at *
  clear hZ
  go_enter Tryd.func91, Tryd.ntmps91
  go_wp2_with fail
  refine (SP.out _).mono ?_
  rintro e w1 ⟨v, rfl, ho, hb⟩
  obtain ⟨A, c, rfl, hc⟩ := ho.form
  have HC := Lib.hid hc
  clear hc ho
  rw [HW.out]
  go_wp2_with fail
  go_loopw [3, 5, 9] (fun v _ i wr => ∃ k : Nat, k ≤ zs.length ∧ i = .int .i64 k ∧ OwnI wr w1.heap.size v (zs.take k) ∧ Below w1.heap.size w1 wr) (fun _ _ i _ => zs.length - (intOf i).toNat)
  case atStart => exact ⟨0, Nat.zero_le _, rfl, OwnI.nil _ _, Below.refl _ _⟩
  case round =>
    obtain ⟨k, hk, rfl, hown, hbw⟩ := hrel
    have hz : w1.heap.size ≤ wr.heap.size := hbw.size
    by_cases hlt : k < zs.length
    · have hks : k < (splitS t 44).length := by rw [HW.out]; exact hlt
      obtain ⟨g, rfl, hg, hcell⟩ := HC.out k hks
      have hcell2 := (hbw.cell (p := ⟨g, k, none⟩) hg).trans hcell
      have hxs : ((splitS t 44).getD k ⟨#[]⟩).size ≤ 1048576 := by
        rw [List.getD_eq_getElem?_getD, List.getElem?_eq_getElem hks, Option.getD_some]
        exact Nat.le_trans (HSZ.out _ (List.getElem_mem hks)) (by omega)
      have HK := Lib.hid (HG.out k hks)
      have hln : (zs.take k).length ≤ 2000 := by rw [List.length_take]; omega
      clear hcell hks
      generalize zs.take k = ys at *
      generalize (splitS t 44).getD k ⟨#[]⟩ = x at *
      go_wp2_with fail
      refine (l1Read_any x _ hxs).mono ?_
      rintro e w' ⟨rfl, rfl⟩
      generalize rdI x = n at *
      go_wp2_with (at_builtin; refine wpList_push _ rfl _ _ rfl w1.heap.size _ ys rfl (hown.alloc _) wr.heap.size n rfl (by simp) (by omega) (by simp; omega) ?_; intro v2 w2 hown1 hg1)
      go_roundw
      case rel => exact ⟨k + 1, by omega, by go_num, by rw [HK.out]; exact hown1, (hbw.alloc (by omega) _).trans hg1⟩
      case measure => simp [intOf]; omega
    · obtain rfl : k = zs.length := by omega
      rw [List.take_length] at hown
      go_wp2_with fail
      go_ret
      exact ⟨_, rfl, hown.mono hb.size, hb.trans (hbw.mono hb.size)⟩

/-- stairs of the call's own -/
def OwnSt (st : Int) (us vs : List Int) (ok : Bool) (w : World) (e : Ending) (w' : World) : Prop :=
  ∃ A A' c c', e = .returned (.tuple #[stv st A A' c c' us vs, .bool ok]) ∧ OwnI w' w.heap.size (.slice A us.length c) us ∧ OwnI w' w.heap.size (.slice A' vs.length c') vs ∧ Below w.heap.size w w'
theorem orX_lenA (t : ByteArray) : (orX (psB t) (psA t)).length ≤ 1048576 := by
  cases h : psB t
  · rw [orX_no]; simp
  · rw [orX_yes]; have := (goodL_of (ps_to h).1).l; omega
theorem orX_lenK (t : ByteArray) : (orX (psB t) (psK t)).length ≤ 1048576 := by
  cases h : psB t
  · rw [orX_no]; simp
  · rw [orX_yes]; have := (goodL_of (ps_to h).1).m; omega


end Go.Proofs.YtfojcefbgdaelaaDoor
