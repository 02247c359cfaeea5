/- Contracts: carpets: the colours of a step; both sides. -/
import Derived.Test.YtkglkknccbjefaaCaT
import Derived.Test.YtkglkknccbjefaaCaL
import Derived.Laws.IdiomStrings
import Derived.Laws.Concat
namespace Go.Proofs.Ytkglkknccbjefaa
open Go.RowKit

set_option maxRecDepth 100000
def csB (s : ByteArray) (wd m n : Int) : Bool := wideB s wd && stepsB n m
theorem csB_le {s : ByteArray} {wd m n : Int} (h : csB s wd m n = true) : stripeB s = true ∧ (1 ≤ wd ∧ wd ≤ 100) ∧ (1 ≤ m ∧ m ≤ 100) ∧ 1 ≤ n ∧ n ≤ 100 := by
  simp only [csB, wideB, stepsB, Bool.and_eq_true] at h
  exact ⟨h.1.1, inB_le h.1.2, inB_le h.2.2, inB_le h.2.1⟩
/-- the letter of a stripe -/
def stI (s : ByteArray) (x : Int) : UInt8 := s.data.getD ((x % (s.size : Int)).toNat) 0
theorem colB_st (s : ByteArray) (wd place : Int) : colB s wd place = stI s (place / wd) := rfl
/-- a text of bytes -/
def txt (l : List UInt8) : ByteArray := ⟨l.toArray⟩
theorem txt_size (l : List UInt8) : (txt l).size = l.length := by simp [txt, ByteArray.size]
theorem txt_snoc (l : List UInt8) (b : UInt8) : txt l ++ ⟨#[b]⟩ = txt (l ++ [b]) := by
  apply ByteArray.ext
  simp [txt]
/-- the letters of k stripes from one on -/
def colL (s : ByteArray) (q : Int) (k : Nat) : List UInt8 := (List.range k).map fun j => stI s (q + (j : Nat))
theorem colL_length (s : ByteArray) (q : Int) (k : Nat) : (colL s q k).length = k := by simp [colL]
theorem colL_snoc (s : ByteArray) (q : Int) (k : Nat) : colL s q (k + 1) = colL s q k ++ [stI s (q + (k : Nat))] := by simp [colL, List.range_succ]
/-- how many stripes are under way from the one at b to before e -/
def csN (wd b e : Int) : Nat := ((e + wd - 1) / wd - b / wd).toNat
theorem lt_up {wd : Int} (hw : 1 ≤ wd) (x e : Int) : x * wd < e ↔ x < (e + wd - 1) / wd := by
  rw [Int.lt_iff_add_one_le (a := x), Int.le_ediv_iff_mul_le (by omega), Int.add_mul]
  omega
theorem cs_in {wd b e : Int} (hw : 1 ≤ wd) (k : Nat) : (b / wd + k) * wd < e ↔ k < csN wd b e := by
  rw [lt_up hw, csN]; omega
theorem cs_bd {wd b e : Int} (hw : 1 ≤ wd) (_hb : 0 ≤ b) (he : e ≤ b + 100) : csN wd b e ≤ 101 := by
  by_cases h : csN wd b e ≤ 101
  · exact h
  · have h1 := (cs_in (b := b) (e := e) hw 101).2 (by omega)
    have h2 := Int.emod_add_mul_ediv b wd
    have h3 := Int.emod_lt_of_pos b (show 0 < wd by omega)
    rw [Int.add_mul, Int.mul_comm (b / wd) wd] at h1
    have h4 : (((101 : Nat) : Int)) * wd = 100 * wd + wd := by omega
    omega
theorem cs_pos {wd b e : Int} (hw : 1 ≤ wd) (h : b < e) (_hb : 0 ≤ b) : 1 ≤ csN wd b e := by
  have h1 := (cs_in (b := b) (e := e) hw 0).1 (by
    have h2 := Int.ediv_mul_le b (show wd ≠ 0 by omega)
    simp; omega)
  omega
def csT (s : ByteArray) (wd m n : Int) : ByteArray := txt (colL s ((n - 1) * m / wd) (csN wd ((n - 1) * m) (n * m)))
def csS (s : ByteArray) (wd m n : Int) : ByteArray := if csB s wd m n then csT s wd m n else ⟨#[]⟩
theorem csS_no {s : ByteArray} {wd m n : Int} (h : csB s wd m n = false) : csS s wd m n = ⟨#[]⟩ := by simp [csS, h]
theorem csS_yes {s : ByteArray} {wd m n : Int} (h : csB s wd m n = true) : csS s wd m n = csT s wd m n := by simp [csS, h]
theorem stJ_facts (s : ByteArray) {x : Int} (hs : 1 ≤ s.size) (hx : 0 ≤ x) : ∃ j : Nat, x.tmod (s.size : Int) = (j : Int) ∧ j < s.size ∧ s.extract j (j + 1) = ⟨#[stI s x]⟩ := by
  have r0 : 0 ≤ x % (s.size : Int) := Int.emod_nonneg _ (by omega)
  have r1 : x % (s.size : Int) < s.size := Int.emod_lt_of_pos _ (by omega)
  have hj : (x % (s.size : Int)).toNat < s.size := by omega
  exact ⟨(x % (s.size : Int)).toNat, by rw [Int.tmod_eq_emod_of_nonneg hx]; omega, hj, extract_one hj⟩

set_option maxHeartbeats 1000000 in
theorem canStripe_any (s : ByteArray) (wd m n : Int) (w : World) :
    Calls Try.prog 25 #[.string s, .int .i64 wd, .int .i64 m, .int .i64 n] w fun e w' => e = .returned (.bool (csB s wd m n)) ∧ Below w.heap.size w w' := by
  cases g0 : stripeB s
  · have hV : csB s wd m n = false := by simp [csB, wideB, stepsB, g0]
    rw [hV]
    clear hV
    have H0 := Lib.hid g0
    clear g0
    go_enter Try.func25, Try.ntmps25
    go_wp2_with fail
    refine (impStriped_any _ _).mono ?_
    rintro e v0 ⟨rfl, hb0⟩
    have BT0 := hb0
    rw [H0.out]
    go_wp2_with fail
    go_ret
    exact ⟨rfl, BT0⟩
  · have _h := True.intro
    cases g1 : inB wd 1 100
    · have hV : csB s wd m n = false := by simp [csB, wideB, stepsB, g0, g1]
      rw [hV]
      clear hV
      have H0 := Lib.hid g0
      clear g0
      have H1 := Lib.hid g1
      clear g1
      go_enter Try.func25, Try.ntmps25
      go_wp2_with fail
      refine (impStriped_any _ _).mono ?_
      rintro e v0 ⟨rfl, hb0⟩
      have BT0 := hb0
      rw [H0.out]
      go_wp2_with fail
      refine (isWide_any _ _).mono ?_
      rintro e w' ⟨rfl, rfl⟩
      rw [H1.out]
      go_wp2_with fail
      go_ret
      exact ⟨rfl, BT0⟩
    · have _h := True.intro
      cases g2 : inB m 1 100
      · have hV : csB s wd m n = false := by simp [csB, wideB, stepsB, g0, g1, g2]
        rw [hV]
        clear hV
        have H0 := Lib.hid g0
        clear g0
        have H1 := Lib.hid g1
        clear g1
        have H2 := Lib.hid g2
        clear g2
        go_enter Try.func25, Try.ntmps25
        go_wp2_with fail
        refine (impStriped_any _ _).mono ?_
        rintro e v0 ⟨rfl, hb0⟩
        have BT0 := hb0
        rw [H0.out]
        go_wp2_with fail
        refine (isWide_any _ _).mono ?_
        rintro e w' ⟨rfl, rfl⟩
        rw [H1.out]
        go_wp2_with fail
        refine (isNeed_any _ _).mono ?_
        rintro e w' ⟨rfl, rfl⟩
        rw [H2.out]
        go_wp2_with fail
        go_ret
        exact ⟨rfl, BT0⟩
      · have _h := True.intro
        cases g3 : inB n 1 100
        · have hV : csB s wd m n = false := by simp [csB, wideB, stepsB, g0, g1, g2, g3]
          rw [hV]
          clear hV
          have H0 := Lib.hid g0
          clear g0
          have H1 := Lib.hid g1
          clear g1
          have H2 := Lib.hid g2
          clear g2
          have H3 := Lib.hid g3
          clear g3
          go_enter Try.func25, Try.ntmps25
          go_wp2_with fail
          refine (impStriped_any _ _).mono ?_
          rintro e v0 ⟨rfl, hb0⟩
          have BT0 := hb0
          rw [H0.out]
          go_wp2_with fail
          refine (isWide_any _ _).mono ?_
          rintro e w' ⟨rfl, rfl⟩
          rw [H1.out]
          go_wp2_with fail
          refine (isNeed_any _ _).mono ?_
          rintro e w' ⟨rfl, rfl⟩
          rw [H2.out]
          go_wp2_with fail
          refine (isCover_any _ _).mono ?_
          rintro e w' ⟨rfl, rfl⟩
          rw [H3.out]
          go_wp2_with fail
          go_ret
          exact ⟨rfl, BT0⟩
        · have _h := True.intro
          rw [show csB s wd m n = true by simp [csB, wideB, stepsB, g0, g1, g2, g3]]
          have H0 := Lib.hid g0
          have H1 := Lib.hid g1
          have H2 := Lib.hid g2
          have H3 := Lib.hid g3
          clear g0
          clear g1
          clear g2
          clear g3
          go_enter Try.func25, Try.ntmps25
          go_wp2_with fail
          refine (impStriped_any _ _).mono ?_
          rintro e v0 ⟨rfl, hb0⟩
          have BT0 := hb0
          rw [H0.out]
          go_wp2_with fail
          refine (isWide_any _ _).mono ?_
          rintro e w' ⟨rfl, rfl⟩
          rw [H1.out]
          go_wp2_with fail
          refine (isNeed_any _ _).mono ?_
          rintro e w' ⟨rfl, rfl⟩
          rw [H2.out]
          go_wp2_with fail
          refine (isCover_any _ _).mono ?_
          rintro e w' ⟨rfl, rfl⟩
          rw [H3.out]
          go_wp2_with fail
          go_ret
          exact ⟨rfl, BT0⟩

set_option maxHeartbeats 1000000 in
theorem specColours_any (s : ByteArray) (wd m n : Int) (w : World) :
    Calls Try.prog 11 #[.string s, .int .i64 wd, .int .i64 m, .int .i64 n] w fun e w' => e = .returned (.tuple #[.string (csS s wd m n), .bool (csB s wd m n)]) ∧ Below w.heap.size w w' := by
  cases g0 : wideB s wd
  · have hV : csB s wd m n = false := by simp [csB, g0]
    rw [csS_no hV, hV]
    clear hV
    have H0 := Lib.hid g0
    clear g0
    go_enter Try.func11, Try.ntmps11
    go_wp2_with fail
    refine (cpWide_any _ _ _).mono ?_
    rintro e w' ⟨rfl, rfl⟩
    rw [H0.out]
    go_wp2_with fail
    go_ret2
    exact ⟨rfl, Below.refl _ _⟩
  · have _h := True.intro
    cases g1 : stepsB n m
    · have hV : csB s wd m n = false := by simp [csB, g0, g1]
      rw [csS_no hV, hV]
      clear hV
      have H0 := Lib.hid g0
      clear g0
      have H1 := Lib.hid g1
      clear g1
      go_enter Try.func11, Try.ntmps11
      go_wp2_with fail
      refine (cpWide_any _ _ _).mono ?_
      rintro e w' ⟨rfl, rfl⟩
      rw [H0.out]
      go_wp2_with fail
      refine (cpSteps_any _ _ _).mono ?_
      rintro e w' ⟨rfl, rfl⟩
      rw [H1.out]
      go_wp2_with fail
      go_ret2
      exact ⟨rfl, Below.refl _ _⟩
    · have _h := True.intro
      have hV : csB s wd m n = true := by simp [csB, g0, g1]
      obtain ⟨hST, hw, hm, hn⟩ := csB_le hV
      have hs := (stripeB_le hST).1
      obtain ⟨e0, e1⟩ := mul_bd (a := n - 1) (A := 99) (b := m) (B := 100) (by omega) (by omega) (by omega) (by omega)
      obtain ⟨f0, f1⟩ := mul_bd (a := n) (A := 100) (b := m) (B := 100) (by omega) (by omega) (by omega) (by omega)
      have hnm : n * m = (n - 1) * m + m := by rw [Int.sub_mul]; omega
      rw [csS_yes hV, hV]
      have HR := Lib.hid (show csT s wd m n = txt (colL s ((n - 1) * m / wd) (csN wd ((n - 1) * m) (n * m))) from rfl)
      rw [HR.out]
      obtain ⟨b, hb⟩ : ∃ b, b = (n - 1) * m := ⟨_, rfl⟩
      have hwb : IntKind.i64.wrap ((n - 1) * m) = b := by rw [← hb] at e0 e1 ⊢; exact IntWalk.i64_in _ (by omega)
      rw [← hb] at e0 e1 hnm ⊢
      rw [hnm]
      have HIN := Lib.hid (fun k => cs_in (wd := wd) (b := b) (e := b + m) hw.1 k)
      have hbd := cs_bd (wd := wd) (b := b) (e := b + m) hw.1 e0 (by omega)
      have hq : b.tdiv wd = b / wd := Int.tdiv_eq_ediv_of_nonneg e0
      have q0 : 0 ≤ b / wd := Int.ediv_nonneg (by omega) (by omega)
      have q1 : b / wd ≤ b := Int.ediv_le_self _ (by omega)
      have hz : ¬ wd = 0 := by omega
      have hz2 : ¬ (s.size : Int) = 0 := by omega
      have hz3 : ¬ s.size = 0 := by omega
      clear hb hnm hV hST HR f0 f1
      generalize csN wd b (b + m) = N at *
      generalize b / wd = q at *
      have hwn : IntKind.i64.wrap (n - 1) = n - 1 := IntWalk.i64_in _ (by omega)
      have H0 := Lib.hid g0
      have H1 := Lib.hid g1
      clear g0
      clear g1
      go_enter Try.func11, Try.ntmps11
      go_wp2_with fail
      refine (cpWide_any _ _ _).mono ?_
      rintro e w' ⟨rfl, rfl⟩
      rw [H0.out]
      go_wp2_with fail
      refine (cpSteps_any _ _ _).mono ?_
      rintro e w' ⟨rfl, rfl⟩
      rw [H1.out]
      go_wp2_with fail
      go_loop [10, 12] (fun t i => ∃ k : Nat, k ≤ N ∧ i = .int .i64 (q + k) ∧ t = .string (txt (colL s q k))) (fun _ i => (q + N - intOf i).toNat)
      case atStart => exact ⟨0, Nat.zero_le _, by simp, rfl⟩
      case round =>
        obtain ⟨k, hk, rfl, rfl⟩ := hrel
        have hin := HIN.out k
        have hT : (txt (colL s q k)).size ≤ 101 := by rw [txt_size, colL_length]; omega
        obtain ⟨j, hj, hjs, hx⟩ := stJ_facts s (x := q + k) hs.1 (by omega)
        have HT := Lib.hid (show txt (colL s q k) ++ s.extract j (j + 1) = txt (colL s q (k + 1)) by rw [hx, txt_snoc, colL_snoc])
        have hxs : (s.extract j (j + 1)).size = 1 := by rw [hx]; rfl
        clear hx
        obtain ⟨x, hxe⟩ : ∃ x : Int, x = q + k := ⟨_, rfl⟩
        rw [← hxe] at hin hj ⊢
        have x0 : 0 ≤ x := by omega
        have x1 : x ≤ 10100 := by omega
        obtain ⟨g0, g1⟩ := mul_bd (a := x) (A := 10100) (b := wd) (B := 100) x0 x1 (by omega) (by omega)
        obtain ⟨y, hy⟩ : ∃ y, y = x * wd := ⟨_, rfl⟩
        have hwy : IntKind.i64.wrap (x * wd) = y := by rw [← hy] at g0 g1 ⊢; exact IntWalk.i64_in _ (by omega)
        rw [← hy] at hin g0 g1
        have HXE := Lib.hid hxe
        clear hy hxe
        by_cases hlt : k < N
        · have h1 : y < b + m := hin.2 hlt
          have i0 : (0 : Int) ≤ (j : Int) := by omega
          have i1 : (j : Int) < (s.size : Int) := by omega
          have i2 : j + 1 ≤ s.size := by omega
          have hwj2 : IntKind.i64.wrap ((j : Int) + 1) = ((j + 1 : Nat) : Int) := IntWalk.i64_in _ (by omega)
          have A0 := fun u => run_string_add_sum (P := Try.prog) u (txt (colL s q k)) (s.extract j (j + 1)) (by omega)
          clear hin hxs
          generalize hTT : txt (colL s q k) = T at *
          have HTT := Lib.hid hTT
          clear hTT
          go_wp2_with fail
          go_round
          case rel => exact ⟨k + 1, by omega, congrArg (Value.int .i64) (by have := HXE.out; omega), by rw [HT.out]⟩
          case measure => have := HXE.out; simp [intOf]; omega
        · obtain rfl : k = N := by omega
          have h1 : ¬ y < b + m := fun h => hlt (hin.1 h)
          clear hin HT hxs hj hjs
          go_wp2_with fail
          go_ret2
          exact ⟨rfl, Below.refl _ _⟩

/-- a row of bytes of the call's own -/
def OwnB (w : World) (B : Nat) (v : Value) (l : List UInt8) : Prop := w.ownsRow B 5 1 v l.length (l.map fun b => Value.int .u8 (b.toNat : Int))
theorem OwnB.nil (w : World) (B : Nat) : OwnB w B (.slice none 0 0) [] := World.ownsRow_nil _ _ _ _
theorem OwnB.alloc {w : World} {B : Nat} {v : Value} {l : List UInt8} (h : OwnB w B v l) (o : Obj) : OwnB (w.alloc o) B v l := World.ownsRow.alloc h o
theorem OwnB.lt {w : World} {B : Nat} {v : Value} {l : List UInt8} (h : OwnB w B v l) : ∀ k, v.ownBlock = some k → B ≤ k ∧ k < w.heap.size := World.ownsRow.lt h
theorem uint8_info : (Try.prog.info? 5).map (fun i => (i.zero, i.size, i.bytes)) = some (some (.int .u8 0), 1, 1) := by kernel_rfl
theorem wpList_pushB (w : World) {ops : Array Oper} {rest : List Oper} {o : Oper} {a : Act} {Q : Exit → Act → World → Prop} (hgd : o.guard = none) (s x : Operand)
    (ho : o.op = .call { callee := .builtin .append, args := #[s, x], argTypes := #[38, 38] }) (B : Nat) (v : Value) (l : List UInt8) (hs : a.eval s = v) (hown : OwnB w B v l)
    (g : Nat) (y : UInt8) (hx : a.eval x = .slice (some ⟨g, 0, none⟩) 1 1) (hc : w.cell? ⟨g, 0, none⟩ = some (.int .u8 (y.toNat : Int))) (hn : l.length ≤ 1048576) (hB : B ≤ w.heap.size)
    (h : ∀ v' w', OwnB w' B v' (l ++ [y]) → Below B w w' → wpList Try.prog ops Q rest (a.put o.dst v') w') : wpList Try.prog ops Q (o :: rest) a w := by
  obtain ⟨i0, hi, hz, hsz, hby⟩ := info_parts uint8_info
  refine wpList_append_own w hgd s x 38 ho B 5 i0 (.int .u8 0) 1 1 Try.underlying38 hi hz hsz hby rfl (by decide) v l.length _ hs hown ⟨g, 0, none⟩ 1 1 [.int .u8 (y.toNat : Int)] hx rfl ?_ ?_ ?_ ?_ hB ?_
  · intro j u hu
    cases j with
    | zero => simp at hu; subst hu; exact hc
    | succ j => simp at hu
  · simp [Value.oneCell']
  · simp only [maxLen]; omega
  · omega
  · intro v' w' h1 h2 _
    refine h v' w' ?_ ((Below.refl _ _).grown h2 hB (fun k hk => (hown.lt k hk).1))
    unfold OwnB
    simpa using h1
/-- string of the bytes of a row -/
theorem conv_own {w : World} {B : Nat} {v : Value} {l : List UInt8} (h : OwnB w B v l) (h1 : 1 ≤ l.length) : (convert 38 9 v).run Try.prog w = .ok (.string (txt l)) w := by
  rcases h.2 with ⟨rfl, h0⟩ | ⟨g, cap, cur, rfl, hg, hh, hc, _⟩
  · omega
  · exact run_convert_bytes_back (P := Try.prog) w 38 9 5 ⟨g, 0, none⟩ cap l Try.underlying38 Try.underlying5 Try.underlying9 (fun j hj => by
      have := World.ownsRow.cells (g := g) h rfl j (.int .u8 (l[j].toNat : Int)) (by simp [hj])
      exact this)
theorem OwnB.len {w : World} {B : Nat} {v : Value} {l : List UInt8} (h : OwnB w B v l) : ∃ A c, v = .slice A l.length c := by
  rcases h.2 with ⟨rfl, h0⟩ | ⟨g, cap, cur, rfl, hg, hh, hc, _⟩
  · exact ⟨none, 0, by rw [h0]⟩
  · exact ⟨_, _, rfl⟩

set_option maxHeartbeats 1000000 in
theorem implColours_any (s : ByteArray) (wd m n : Int) (w : World) :
    Calls Try.prog 12 #[.string s, .int .i64 wd, .int .i64 m, .int .i64 n] w fun e w' => e = .returned (.tuple #[.string (csS s wd m n), .bool (csB s wd m n)]) ∧ Below w.heap.size w w' := by
  cases g0 : csB s wd m n
  · have hV : csB s wd m n = false := g0
    rw [csS_no hV]
    clear hV
    have H0 := Lib.hid g0
    clear g0
    go_enter Try.func12, Try.ntmps12
    go_wp2_with fail
    refine (canStripe_any _ _ _ _ _).mono ?_
    rintro e v0 ⟨rfl, hb0⟩
    have BT0 := hb0
    rw [H0.out]
    go_wp2_with fail
    go_ret2
    exact ⟨rfl, BT0⟩
  · have _h := True.intro
    have hV := g0
    obtain ⟨hST, hw, hm, hn⟩ := csB_le hV
    have hs := (stripeB_le hST).1
    obtain ⟨e0, e1⟩ := mul_bd (a := n - 1) (A := 99) (b := m) (B := 100) (by omega) (by omega) (by omega) (by omega)
    obtain ⟨f0, f1⟩ := mul_bd (a := n) (A := 100) (b := m) (B := 100) (by omega) (by omega) (by omega) (by omega)
    have hnm : n * m = (n - 1) * m + m := by rw [Int.sub_mul]; omega
    rw [csS_yes hV]
    have HR := Lib.hid (show csT s wd m n = txt (colL s ((n - 1) * m / wd) (csN wd ((n - 1) * m) (n * m))) from rfl)
    rw [HR.out]
    obtain ⟨b, hb⟩ : ∃ b, b = (n - 1) * m := ⟨_, rfl⟩
    have hwb : IntKind.i64.wrap ((n - 1) * m) = b := by rw [← hb] at e0 e1 ⊢; exact IntWalk.i64_in _ (by omega)
    obtain ⟨e, he⟩ : ∃ e, e = n * m := ⟨_, rfl⟩
    have hwe : IntKind.i64.wrap (n * m) = e := by rw [← he] at f0 f1 ⊢; exact IntWalk.i64_in _ (by omega)
    rw [← hb, ← he] at hnm
    rw [← hb] at e0 e1 ⊢
    rw [← he] at f0 f1 ⊢
    have HIN := Lib.hid (fun k => cs_in (wd := wd) (b := b) (e := e) hw.1 k)
    have hbd := cs_bd (wd := wd) (b := b) (e := e) hw.1 e0 (by omega)
    have hps := cs_pos (wd := wd) (b := b) (e := e) hw.1 (by omega) e0
    have q0 : 0 ≤ b / wd := Int.ediv_nonneg (by omega) (by omega)
    have q1 : b / wd ≤ b := Int.ediv_le_self _ (by omega)
    have hz : ¬ wd = 0 := by omega
    have hq : b.tmod wd = b % wd := Int.tmod_eq_emod_of_nonneg e0
    have r0 : 0 ≤ b % wd := Int.emod_nonneg _ (by omega)
    have r1 : b % wd < wd := Int.emod_lt_of_pos _ (by omega)
    have hqq : b / wd * wd = b - b % wd := by have := Int.emod_add_mul_ediv b wd; rw [Int.mul_comm]; omega
    have hnme := Lib.hid hnm
    clear hb he hnm hV hST HR
    generalize csN wd b e = N at *
    generalize b % wd = r at *
    generalize b / wd = q at *
    have hwn : IntKind.i64.wrap (n - 1) = n - 1 := IntWalk.i64_in _ (by omega)
    have hwr : IntKind.i64.wrap (b - r) = b - r := IntWalk.i64_in _ (by omega)
    have HQQ := Lib.hid hqq
    have HS := Lib.hid (fun place (u : World) h0 h1 => colourAt_any s wd place u hs.1 hs.2 hw.1 h0 h1)
    clear hqq hs
    have H0 := Lib.hid g0
    clear g0
    go_enter Try.func12, Try.ntmps12
    go_wp2_with fail
    refine (canStripe_any _ _ _ _ _).mono ?_
    rintro e v0 ⟨rfl, hb0⟩
    have BT0 := hb0
    rw [H0.out]
    go_wp2_with fail
    go_loopw [12, 13] (fun v i wr => ∃ k : Nat, k ≤ N ∧ i = .int .i64 ((q + k) * wd) ∧ OwnB wr w.heap.size v (colL s q k) ∧ Below w.heap.size w wr) (fun _ i _ => (e + 100 - intOf i).toNat)
    case atStart => exact ⟨0, Nat.zero_le _, by have := HQQ.out; simp only [Int.natCast_zero, Int.add_zero]; rw [this], OwnB.nil _ _, BT0⟩
    case round =>
      obtain ⟨k, hk, rfl, hown, hbw⟩ := hrel
      have hz1 : w.heap.size ≤ wr.heap.size := hbw.size
      have hin := HIN.out k
      have x1 : q + k ≤ 10100 := by omega
      obtain ⟨g0, g1⟩ := mul_bd (a := q + k) (A := 10100) (b := wd) (B := 100) (by omega) x1 (by omega) (by omega)
      have HC := Lib.hid (show colB s wd ((q + k) * wd) = stI s (q + k) by rw [colB_st, Int.mul_ediv_cancel _ (by omega)])
      have HNX : Hid ((q + k) * wd + wd = (q + ((k + 1 : Nat) : Int)) * wd) := Lib.hid (by rw [Int.natCast_add, ← Int.add_assoc, Int.add_mul (q + k)]; simp)
      have HSN := Lib.hid (colL_snoc s q k)
      have hcl := colL_length s q k
      obtain ⟨y, hy⟩ : ∃ y, y = (q + k) * wd := ⟨_, rfl⟩
      rw [← hy] at hin g0 g1 HC HNX ⊢
      clear hy
      by_cases hlt : k < N
      · have h1 : y < e := hin.2 hlt
        have hwy : IntKind.i64.wrap (y + wd) = y + wd := IntWalk.i64_in _ (by omega)
        have HCA := Lib.hid (HS.out y wr g0 (by omega))
        rw [HC.out] at HCA
        generalize stI s (q + k) = c at *
        generalize hZ : colL s q k = zs at *
        have hzl : zs.length ≤ 1048576 := by omega
        have HZ := Lib.hid hZ
        clear hZ hcl hin
        go_wp2_with fail
        refine HCA.out.mono ?_
        rintro e' w' ⟨rfl, rfl⟩
        go_wp2_with (at_builtin; refine wpList_pushB _ rfl _ _ rfl w.heap.size _ zs rfl (hown.alloc _) wr.heap.size c rfl (by first | (simp; done) | exact (Blk.new' rfl).cell 0) hzl (by simp; omega) ?_; intro v1 w3 hown1 hg1)
        go_roundw
        case rel => exact ⟨k + 1, by omega, congrArg (Value.int .i64) HNX.out, by rw [HSN.out]; exact hown1, (hbw.alloc hz1 _).trans hg1⟩
        case measure => simp [intOf]; omega
      · obtain rfl : k = N := by omega
        have h1 : ¬ y < e := fun h => hlt (hin.1 h)
        have HCV := conv_own hown (by rw [hcl]; omega)
        clear hin hcl hown
        go_wp2_with fail
        go_ret2
        exact ⟨rfl, hbw⟩


end Go.Proofs.Ytkglkknccbjefaa
