/- Lists that a call leaves as the head of a row of its own, of whatever type the row is. -/
import Derived.Test.YtdeckfdmhpiokaaGMake
namespace Go.Proofs.Ytdeckfdmhpiokaa
open Go.RowKit

/-- a list of its own, or the head of a row of its own of type T -/
def OwnX (T : TypeId) (w : World) (B : Nat) (v : Value) (xs : List Int) : Prop :=
  OwnI w B v xs ∨ ∃ g cap ys, v = .slice (some ⟨g, 0, none⟩) xs.length cap ∧ B ≤ g ∧ Blk w g T (ints (xs ++ ys)) ∧ xs.length ≤ cap
def ListsX (T : TypeId) (w : World) (xs : List Int) (ok : Bool) (e : Ending) (w' : World) : Prop :=
  ∃ v, e = .returned (.tuple #[v, .bool ok]) ∧ OwnX T w' w.heap.size v xs ∧ Below w.heap.size w w'
theorem OwnX.lt {T : TypeId} {w : World} {B : Nat} {v : Value} {xs : List Int} (h : OwnX T w B v xs) : ∀ k, v.ownBlock = some k → B ≤ k ∧ k < w.heap.size := by
  rcases h with h | ⟨g, cap, ys, rfl, hB, hb, _⟩
  · exact h.lt
  · intro k hk
    simp [Value.ownBlock] at hk
    subst hk
    exact ⟨hB, hb.lt⟩
theorem getD_app (xs ys : List Int) (j : Nat) (h : j < xs.length) : (xs ++ ys).getD j 0 = xs.getD j 0 := by simp [List.getD_eq_getElem?_getD, List.getElem?_append_left h]
theorem OwnX.form {T : TypeId} {w : World} {B : Nat} {v : Value} {xs : List Int} (h : OwnX T w B v xs) : ∃ A c, v = .slice A xs.length c ∧ Rd w w.heap.size A c xs := by
  rcases h with h | ⟨g, cap, ys, rfl, hB, hb, hc⟩
  · exact h.form
  · exact ⟨_, _, rfl, hc, fun j hj => ⟨g, 0, rfl, hb.lt, by
      rw [Nat.zero_add, hb.int_at (by simp; omega), getD_app _ _ _ hj]⟩⟩
theorem OwnX.rd {T : TypeId} {w : World} {B n c : Nat} {A : Option Addr} {xs : List Int} (h : OwnX T w B (.slice A n c) xs) : Rd w w.heap.size A c xs := by
  obtain ⟨A', c', he, hr⟩ := h.form
  injection he with h1 h2 h3
  subst h1 h3
  exact hr
theorem OwnX.below {T : TypeId} {w w' : World} {B B' : Nat} {v : Value} {xs : List Int} (h : OwnX T w B v xs) (hb : Below B' w w') (hB : w.heap.size ≤ B') : OwnX T w' B v xs := by
  rcases h with h | ⟨g, cap, ys, rfl, hg, hh, hc⟩
  · exact .inl (h.below hb hB)
  · exact .inr ⟨g, cap, ys, rfl, hg, hh.below hb (by have := hh.lt; omega), hc⟩
theorem OwnX.mono {T : TypeId} {w : World} {B B' : Nat} {v : Value} {xs : List Int} (h : OwnX T w B v xs) (hB : B' ≤ B) : OwnX T w B' v xs := by
  rcases h with h | ⟨g, cap, ys, rfl, hg, hh, hc⟩
  · exact .inl (h.mono hB)
  · exact .inr ⟨g, cap, ys, rfl, by omega, hh, hc⟩
set_option maxHeartbeats 1000000 in
theorem markX_new (T : TypeId) (v : Value) (xs : List Int) (k : Int) (B : Nat) (w : World) (ho : OwnX T w B v xs) (hn : xs.length ≤ 1048576) (hk0 : 0 ≤ k) (hk1 : k ≤ 4194304) :
    Calls Try.prog 18 #[v, .int .i64 k] w fun e w' => e = .returned (.int .i64 (k + xs.length)) ∧ OwnX T w' B v (marksL k xs.length) ∧ Turned w w' (rowL v) := by
  rcases ho with h | ⟨g, cap, ys, rfl, hg, hh, hcap⟩
  · exact (markI_new v xs k B w h hn hk0 hk1).mono fun _ _ ⟨a, b, c⟩ => ⟨a, .inl b, c⟩
  · go_enter Try.func18, Try.ntmps18
    go_wp2
    go_loopw [1, 5] (fun m i wr => ∃ (j : Nat), j ≤ xs.length ∧ i = .int .i64 j ∧ m = .int .i64 (k + j) ∧ Blk wr g T (ints (marking k j xs ++ ys)) ∧ Turned w wr [g]) (fun _ i _ => xs.length - (intOf i).toNat)
    case atStart => exact ⟨0, Nat.zero_le _, rfl, by simp, hh, Turned.refl _ _⟩
    case round =>
      obtain ⟨j, hj, rfl, rfl, hown, hgr⟩ := hrel
      have hl := marking_length (k := k) hj
      by_cases hlt : j < xs.length
      · have hc := hown.int_at (k := j) (by simp; omega)
        have hf := hown.frozen j
        have ho2 := hown.int_set j (k + j)
        rw [List.set_append_left _ _ (by omega), marking_set hlt] at ho2
        have hbs : Below g wr (wr.setCell ⟨g, j, none⟩ (.int .i64 (k + j))) := (Below.refl g wr).setCell (p := ⟨g, j, none⟩) (Nat.le_refl g) _
        have hg3 : Turned w (wr.setCell ⟨g, j, none⟩ (.int .i64 (k + j))) [g] := hgr.trans ⟨hbs.os, hbs.tape, hbs.output, hbs.size, fun i _ hi => Below.heap_setCell wr _ _ i (by simpa using hi)⟩
        generalize (marking k j xs ++ ys).getD j 0 = y at *
        have HL := Lib.hid hl
        clear hl hown hgr hbs
        go_wp2
        go_roundw
        case rel => exact ⟨j + 1, by omega, by go_num, by go_num, ho2, hg3⟩
        case measure => simp [intOf]; omega
      · obtain rfl : j = xs.length := by omega
        have HL := Lib.hid hl
        clear hl
        have e : marking k xs.length xs = marksL k xs.length := by simp [marking]
        rw [e] at hown
        have e2 := marksL_length k xs.length
        go_wp2
        go_ret
        exact ⟨rfl, .inr ⟨g, cap, ys, by rw [e2], hg, hown, by rw [e2]; exact hcap⟩, hgr⟩
set_option maxHeartbeats 1000000 in
theorem heldX_any (T : TypeId) (v : Value) (n : Nat) (k : Int) (B : Nat) (w : World) (ho : OwnX T w B v (marksL k n)) (hn : n ≤ 1048576) (hk0 : 0 ≤ k) (hk1 : k ≤ 4194304) :
    Calls Try.prog 19 #[v, .int .i64 k] w fun e w' => e = .returned (.int .i64 (k + n)) ∧ w = w' := by
  obtain ⟨A, c, rfl, hr⟩ := ho.form
  rw [marksL_length]
  clear ho
  go_enter Try.func19, Try.ntmps19
  go_wp2
  go_loop [1, 5] (fun m i => ∃ (j : Nat), j ≤ n ∧ i = .int .i64 j ∧ m = .int .i64 (k + j)) (fun _ i => n - (intOf i).toNat)
  case atStart => exact ⟨0, Nat.zero_le _, rfl, by simp⟩
  case round =>
    obtain ⟨j, hj, rfl, rfl⟩ := hrel
    by_cases hlt : j < n
    · obtain ⟨b, o, rfl, hb, hcell⟩ := hr.at_ (k := j) (by rw [marksL_length]; exact hlt)
      rw [marksL_get _ _ _ hlt] at hcell
      go_wp2
      go_round
      case rel => exact ⟨j + 1, by omega, by go_num, by go_num⟩
      case measure => simp [intOf]; omega
    · obtain rfl : j = n := by omega
      go_wp2
      go_ret
      exact ⟨rfl, rfl⟩

end Go.Proofs.Ytdeckfdmhpiokaa
