/- Contracts: the model's parting of a text at a byte, and its reading of a number. -/
import Derived.Test.YtohimcljobpkjaaDoorOTxList
import Derived.Laws.DeepStrings4
import Derived.WalkSpells
namespace Go.Proofs.YtohimcljobpkjaaDoor
open Go.RowKit
set_option maxRecDepth 100000

/-- the words ahead of the first i bytes' last one, and where that begins -/
def spW (s : ByteArray) (b : UInt8) : Nat → List ByteArray × Nat
  | 0 => ([], 0)
  | i + 1 => if s.data.getD i 0 = b then ((spW s b i).1 ++ [s.extract (spW s b i).2 i], i + 1) else spW s b i
theorem spW_yes {s : ByteArray} {b : UInt8} {i : Nat} (h : s.data.getD i 0 = b) : (spW s b (i + 1)).1 = (spW s b i).1 ++ [s.extract (spW s b i).2 i] ∧ (spW s b (i + 1)).2 = i + 1 := by
  rw [spW, if_pos h]; exact ⟨rfl, rfl⟩
theorem spW_no {s : ByteArray} {b : UInt8} {i : Nat} (h : ¬ s.data.getD i 0 = b) : spW s b (i + 1) = spW s b i := by rw [spW, if_neg h]
theorem spW_le (s : ByteArray) (b : UInt8) : ∀ i, (spW s b i).2 ≤ i ∧ (spW s b i).1.length ≤ i
  | 0 => ⟨Nat.le_refl _, Nat.le_refl _⟩
  | i + 1 => by
    have := spW_le s b i
    unfold spW
    split
    · simp; omega
    · omega
/-- the words of a text -/
def splitS (s : ByteArray) (b : UInt8) : List ByteArray := (spW s b s.size).1 ++ [s.extract (spW s b s.size).2 s.size]
/-- a row of texts of the call's own -/
def OwnS (w : World) (B : Nat) (v : Value) (xs : List ByteArray) : Prop := w.ownsRow B 9 1 v xs.length (xs.map Value.string)
theorem OwnS.nil (w : World) (B : Nat) : OwnS w B (.slice none 0 0) [] := World.ownsRow_nil _ _ _ _
theorem OwnS.alloc {w : World} {B : Nat} {v : Value} {xs : List ByteArray} (h : OwnS w B v xs) (o : Obj) : OwnS (w.alloc o) B v xs := World.ownsRow.alloc h o
theorem OwnS.lt {w : World} {B : Nat} {v : Value} {xs : List ByteArray} (h : OwnS w B v xs) : ∀ k, v.ownBlock = some k → B ≤ k ∧ k < w.heap.size := World.ownsRow.lt h
theorem OwnS.form {w : World} {B : Nat} {v : Value} {xs : List ByteArray} (h : OwnS w B v xs) : ∃ A c, v = .slice A xs.length c ∧ ∀ k, k < xs.length → ∃ g, A = some ⟨g, 0, none⟩ ∧ g < w.heap.size ∧ w.cell? ⟨g, k, none⟩ = some (.string (xs.getD k ⟨#[]⟩)) := by
  rcases h.2 with ⟨rfl, h0⟩ | ⟨g, cap, cur, rfl, hg, hh, hc, _⟩
  · have : xs = [] := List.eq_nil_of_length_eq_zero h0
    subst this
    exact ⟨none, 0, rfl, fun k hk => absurd hk (by simp)⟩
  · refine ⟨_, _, rfl, fun k hk => ⟨g, rfl, (Array.getElem?_eq_some_iff.1 hh).1, ?_⟩⟩
    have := World.ownsRow.cells (g := g) h rfl k (.string (xs.getD k ⟨#[]⟩)) (by simp [hk, List.getD_eq_getElem?_getD])
    rw [Addr.add_lit, Nat.zero_add] at this
    exact this
theorem wpList_pushS (w : World) {ops : Array Oper} {rest : List Oper} {o : Oper} {a : Act} {Q : Exit → Act → World → Prop} (hgd : o.guard = none) (s x : Operand)
    (ho : o.op = .call { callee := .builtin .append, args := #[s, x], argTypes := #[42, 42] }) (B : Nat) (v : Value) (xs : List ByteArray) (hs : a.eval s = v) (hown : OwnS w B v xs)
    (g : Nat) (y : ByteArray) (hx : a.eval x = .slice (some ⟨g, 0, none⟩) 1 1) (hc : w.cell? ⟨g, 0, none⟩ = some (.string y)) (hn : xs.length ≤ 1048576) (hB : B ≤ w.heap.size)
    (h : ∀ v' w', OwnS w' B v' (xs ++ [y]) → Below B w w' → wpList Tryd.prog ops Q rest (a.put o.dst v') w') : wpList Tryd.prog ops Q (o :: rest) a w := by
  obtain ⟨i0, hi, hz, hsz, hby⟩ := info_parts string_info
  refine wpList_append_own w hgd s x 42 ho B 9 i0 (.string ⟨#[]⟩) 1 16 Tryd.underlying42 hi hz hsz hby rfl (by decide) v xs.length _ hs hown ⟨g, 0, none⟩ 1 1 [.string y] hx rfl ?_ ?_ ?_ ?_ hB ?_
  · intro j u hu
    cases j with
    | zero => simp at hu; subst hu; exact hc
    | succ j => simp at hu
  · simp [Value.oneCell']
  · simp only [maxLen]; omega
  · omega
  · intro v' w' h1 h2 _
    refine h v' w' ?_ ((Below.refl _ _).grown h2 hB (fun k hk => (hown.lt k hk).1))
    unfold OwnS
    simpa using h1

set_option maxHeartbeats 1000000 in
theorem l1Split_any (s : ByteArray) (b : UInt8) (w : World) (hn : s.size ≤ 1048576) :
    Calls Tryd.prog 36 #[.string s, .int .u8 (b.toNat : Int)] w fun e w' => ∃ v, e = .returned v ∧ OwnS w' w.heap.size v (splitS s b) ∧ Below w.heap.size w w' := by
  go_enter Tryd.func36, Tryd.ntmps36
  go_wp2_with fail
  go_loopw [5, 6, 7] (fun v f i wr => ∃ k : Nat, k ≤ s.size ∧ i = .int .i64 k ∧ f = .int .i64 ((spW s b k).2 : Int) ∧ OwnS wr w.heap.size v (spW s b k).1 ∧ Below w.heap.size w wr) (fun _ _ i _ => s.size - (intOf i).toNat)
  case atStart => exact ⟨0, Nat.zero_le _, rfl, rfl, OwnS.nil _ _, Below.refl _ _⟩
  case round =>
    obtain ⟨k, hk, rfl, rfl, hown, hbw⟩ := hrel
    have hz : w.heap.size ≤ wr.heap.size := hbw.size
    have hle := spW_le s b k
    by_cases hlt : k < s.size
    · have i0 : (0 : Int) ≤ (k : Int) := by omega
      have i1 : (k : Int) < (s.size : Int) := by omega
      have eg : s.data.getD k 0 = s[k]'hlt := by simp [ByteArray.getElem_eq_getElem_data, Array.getD, hlt]
      by_cases e : s.data.getD k 0 = b
      · have HT := Lib.hid (spW_yes e)
        have e2 : (s[k]'hlt).toNat = b.toNat := by rw [← eg, e]
        clear e eg
        generalize hL : (spW s b k).1 = zs at *
        generalize (spW s b k).2 = f at *
        clear hL
        go_wp2_with (at_builtin; refine wpList_pushS _ rfl _ _ rfl w.heap.size _ zs rfl (hown.alloc _) wr.heap.size (s.extract f k) rfl (by simp) (by omega) (by simp; omega) ?_; intro v2 w2 hown1 hg1)
        go_roundw
        case rel => exact ⟨k + 1, by omega, by go_num, by rw [HT.out.2]; go_num, by rw [HT.out.1]; exact hown1, (hbw.alloc (by omega) _).trans hg1⟩
        case measure => simp [intOf]; omega
      · have HT := Lib.hid (spW_no e)
        have e2 : ¬ (s[k]'hlt).toNat = b.toNat := fun h => e (by rw [eg]; exact UInt8.toNat_inj.1 h)
        clear e eg
        go_wp2_with fail
        go_roundw
        case rel => exact ⟨k + 1, by omega, by go_num, by rw [HT.out], by rw [HT.out]; exact hown, hbw⟩
        case measure => simp [intOf]; omega
    · obtain rfl : k = s.size := by omega
      have HS := Lib.hid (show splitS s b = (spW s b s.size).1 ++ [s.extract (spW s b s.size).2 s.size] from rfl)
      generalize hL : (spW s b s.size).1 = zs at *
      generalize (spW s b s.size).2 = f at *
      clear hL
      go_wp2_with (at_builtin; refine wpList_pushS _ rfl _ _ rfl w.heap.size _ zs rfl (hown.alloc _) wr.heap.size (s.extract f s.size) rfl (by simp) (by omega) (by simp; omega) ?_; intro v2 w2 hown1 hg1)
      go_ret
      exact ⟨_, rfl, by rw [HS.out]; exact hown1, (hbw.alloc (by omega) _).trans hg1⟩

end Go.Proofs.YtohimcljobpkjaaDoor
