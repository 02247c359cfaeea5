/- Contracts: the model's own copies of lists. -/
import Derived.Test.YtimgnollnnepbaaApp
import Derived.Test.YtimgnollnnepbaaSorted
import Derived.Test.YtimgnollnnepbaaKit
import Derived.Deep.RegionHeld3
namespace Go.Proofs.Ytimgnollnnepbaa
open Go.RowKit

set_option maxHeartbeats 400000 in
theorem l1Own_any (A : Option Addr) (c : Nat) (xs : List Int) (B : Nat) (w : World) (hr : Rd w B A c xs) (hB : B ≤ w.heap.size) (hn : xs.length ≤ 1048576) :
    Calls Try.prog 77 #[.slice A xs.length c] w fun e w' => ∃ v, e = .returned v ∧ OwnI w' w.heap.size v xs ∧ Below w.heap.size w w' := by
  go_enter Try.func77, Try.ntmps77
  go_wp2_with (at_builtin; refine wpList_append_rd' _ rfl _ _ rfl w.heap.size B (.slice (some ⟨w.heap.size, 0, none⟩) 0 0) [] xs rfl (OwnI.empty rfl) A xs.length c rfl rfl (hr.below (below_alloc _ _) hB) (by simp; omega) (by simp) ?_; intro v1 w1 hv1 hb1)
  go_ret
  exact ⟨v1, rfl, by simpa using hv1, (below_alloc _ _).trans hb1⟩

theorem putL_lt {xs : List Int} {x : Int} {k : Nat} (h : k < xs.length) (hlt : xs.getD k 0 < x) (H : putL xs x = xs.take k ++ putL (xs.drop k) x) : putL xs x = xs.take (k + 1) ++ putL (xs.drop (k + 1)) x := by
  rw [H, drop_at xs k h, take_succ_getD h]
  simp only [putL, if_pos hlt, List.append_assoc, List.singleton_append]
theorem putL_eq {xs : List Int} {x : Int} {k : Nat} (h : k < xs.length) (he : xs.getD k 0 = x) (H : putL xs x = xs.take k ++ putL (xs.drop k) x) : putL xs x = xs := by
  rw [H, drop_at xs k h]
  simp only [putL, if_neg (show ¬ xs.getD k 0 < x by omega), if_pos he]
  rw [← drop_at xs k h, List.take_append_drop]
theorem putL_gt {xs : List Int} {x : Int} {k : Nat} (h : k < xs.length → x < xs.getD k 0) (H : putL xs x = xs.take k ++ putL (xs.drop k) x) : putL xs x = xs.take k ++ [x] ++ xs.drop k := by
  rw [H]
  by_cases hk : k < xs.length
  · have := h hk
    rw [drop_at xs k hk]
    simp only [putL, if_neg (show ¬ xs.getD k 0 < x by omega), if_neg (show ¬ xs.getD k 0 = x by omega), List.append_assoc, List.singleton_append]
  · rw [List.drop_eq_nil_of_le (by omega)]
    simp [putL]

/-- WHAT A CALL LEAVES THAT ANSWERS A LIST, in whatever memory -/
def SomeL (B : Nat) (xs : List Int) (w : World) (e : Ending) (w' : World) : Prop := ∃ A c, e = .returned (.slice A xs.length c) ∧ Rd w' w'.heap.size A c xs ∧ (∀ a, A = some a → a.block < B ∨ w.heap.size ≤ a.block) ∧ Below w.heap.size w w'

set_option maxHeartbeats 1000000 in
theorem l1Put_any (A : Option Addr) (c : Nat) (xs : List Int) (x : Int) (B : Nat) (w : World) (hr : Rd w B A c xs) (hB : B ≤ w.heap.size) (hn : xs.length ≤ 1048576) :
    Calls Try.prog 78 #[.slice A xs.length c, .int .i64 x] w (SomeL B (putL xs x) w) := by
  have hcap := hr.1
  go_enter Try.func78, Try.ntmps78
  go_wp2
  go_loop [5] (fun i => ∃ (k : Nat), k ≤ xs.length ∧ i = .int .i64 k ∧ Hid (putL xs x = xs.take k ++ putL (xs.drop k) x)) (fun i => xs.length - (intOf i).toNat)
  case atStart => exact ⟨0, Nat.zero_le _, rfl, by simp [Hid]⟩
  case round =>
    obtain ⟨k, hk, rfl, H⟩ := hrel
    by_cases hlt : k < xs.length
    · obtain ⟨b, o, rfl, hb, hcell⟩ := hr.at_ hlt
      have L1 := Lib.hid (fun h => putL_lt hlt h H.out)
      have L2 := Lib.hid (fun h => putL_eq hlt h H.out)
      have L3 := Lib.hid (fun h => putL_gt (x := x) (fun _ => h) H.out)
      generalize xs.getD k 0 = y at *
      by_cases h1 : y < x
      · go_wp2
        go_round
        case rel => exact ⟨k + 1, by omega, by go_num, L1.out h1⟩
        case measure => simp [intOf]; omega
      · by_cases h2 : y = x
        · have E := Lib.hid (L2.out h2)
          subst h2
          go_wp2
          go_ret
          rw [E.out]
          exact ⟨_, _, rfl, hr.more hB, fun a ha => by injection ha with ha; subst ha; exact .inl hb, Below.refl _ _⟩
        · have E := Lib.hid (L3.out (by omega))
          have H1 : x < y := by omega
          have hck : ¬ c = k := by omega
          go_wp2_with (at_builtin; first
            | (have _t := hv2; refine wpList_append_rd' _ rfl _ _ rfl w.heap.size B _ (xs.take k ++ [x]) (xs.drop k) rfl hv2 (some ⟨b, o + k, none⟩) (xs.length - k) (c - k) rfl (by simp) (by have h := (hr.drop hk).below hb12 hB; rw [if_neg hck] at h; simpa [Addr.add_lit] using h : Rd w2 B (some ⟨b, o + k, none⟩) (c - k) (xs.drop k)) (by simp; omega) (by have := hb12.size; omega) ?_; intro v3 w3 hv3 hb3)
            | (have _t := hv1; refine wpList_push _ rfl _ _ rfl w.heap.size _ (xs.take k) rfl (hv1.alloc _) w1.heap.size x rfl (by simp) (by simp; omega) (by simp; omega) ?_; intro v2 w2 hv2 hb2; have hb12 : Below w.heap.size w w2 := ((below_alloc _ _).trans hb1).trans (((Below.refl _ _).alloc (by omega) _).trans hb2))
            | (refine wpList_append_rd' _ rfl _ _ rfl w.heap.size B (.slice (some ⟨w.heap.size, 0, none⟩) 0 0) [] (xs.take k) rfl (OwnI.empty rfl) (some ⟨b, o, none⟩) k c rfl (by simp; omega) ((hr.take hk).below (below_alloc _ _) hB) (by simp; omega) (by simp) ?_; intro v1 w1 hv1 hb1; have hz1 : w.heap.size < w1.heap.size := by have := hb1.size; simp at this; omega))
          go_ret
          rw [E.out]
          obtain ⟨A9, c9, hvv, hr9⟩ := hv3.form
          subst hvv
          exact ⟨A9, c9, rfl, hr9, fun a ha => by subst ha; exact .inr (hv3.lt _ rfl).1, hb12.trans hb3⟩
    · have E := Lib.hid (putL_gt (x := x) (fun h => absurd h hlt) H.out)
      have hck : c = k ∨ ¬ c = k := by omega
      have hkn : k = xs.length := by omega
      have HK := Lib.hid hkn
      clear hkn
      rcases hck with hck | hck
      · subst hck
        go_wp2_with (at_builtin; first
          | (have _t := hv2; refine wpList_append_rd' _ rfl _ _ rfl w.heap.size B _ (xs.take c ++ [x]) (xs.drop c) rfl hv2 A 0 0 rfl (by simp; omega) (by have h := (hr.drop hk).below hb12 hB; rw [if_pos rfl, Nat.sub_self] at h; exact h : Rd w2 B A 0 (xs.drop c)) (by simp; omega) (by have := hb12.size; omega) ?_; intro v3 w3 hv3 hb3)
          | (have _t := hv1; refine wpList_push _ rfl _ _ rfl w.heap.size _ (xs.take c) rfl (hv1.alloc _) w1.heap.size x rfl (by simp) (by simp; omega) (by simp; omega) ?_; intro v2 w2 hv2 hb2; have hb12 : Below w.heap.size w w2 := ((below_alloc _ _).trans hb1).trans (((Below.refl _ _).alloc (by omega) _).trans hb2))
          | (refine wpList_append_rd' _ rfl _ _ rfl w.heap.size B (.slice (some ⟨w.heap.size, 0, none⟩) 0 0) [] (xs.take c) rfl (OwnI.empty rfl) A c c rfl (by simp; omega) ((hr.take hk).below (below_alloc _ _) hB) (by simp; omega) (by simp) ?_; intro v1 w1 hv1 hb1; have hz1 : w.heap.size < w1.heap.size := by have := hb1.size; simp at this; omega))
        go_ret
        rw [E.out]
        obtain ⟨A9, c9, hvv, hr9⟩ := hv3.form
        subst hvv
        exact ⟨A9, c9, rfl, hr9, fun a ha => by subst ha; exact .inr (hv3.lt _ rfl).1, hb12.trans hb3⟩

      · go_wp2_with (at_builtin; first
          | (have _t := hv2; refine wpList_append_rd' _ rfl _ _ rfl w.heap.size B _ (xs.take k ++ [x]) (xs.drop k) rfl hv2 (A.map (·.add k)) (xs.length - k) (c - k) rfl (by simp) (by have h := (hr.drop hk).below hb12 hB; rw [if_neg hck] at h; exact h : Rd w2 B (A.map (·.add k)) (c - k) (xs.drop k)) (by simp; omega) (by have := hb12.size; omega) ?_; intro v3 w3 hv3 hb3)
          | (have _t := hv1; refine wpList_push _ rfl _ _ rfl w.heap.size _ (xs.take k) rfl (hv1.alloc _) w1.heap.size x rfl (by simp) (by simp; omega) (by simp; omega) ?_; intro v2 w2 hv2 hb2; have hb12 : Below w.heap.size w w2 := ((below_alloc _ _).trans hb1).trans (((Below.refl _ _).alloc (by omega) _).trans hb2))
          | (refine wpList_append_rd' _ rfl _ _ rfl w.heap.size B (.slice (some ⟨w.heap.size, 0, none⟩) 0 0) [] (xs.take k) rfl (OwnI.empty rfl) A k c rfl (by simp; omega) ((hr.take hk).below (below_alloc _ _) hB) (by simp; omega) (by simp) ?_; intro v1 w1 hv1 hb1; have hz1 : w.heap.size < w1.heap.size := by have := hb1.size; simp at this; omega))
        go_ret
        rw [E.out]
        obtain ⟨A9, c9, hvv, hr9⟩ := hv3.form
        subst hvv
        exact ⟨A9, c9, rfl, hr9, fun a ha => by subst ha; exact .inr (hv3.lt _ rfl).1, hb12.trans hb3⟩

end Go.Proofs.Ytimgnollnnepbaa
