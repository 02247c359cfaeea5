/- Chapter 7's sender: its text, piece by piece. -/
import Derived.Test.YtiacfaeanlkalaaBaW
import Derived.Test.YtiacfaeanlkalaaGnK
set_option linter.unusedSimpArgs false
namespace Go.Proofs.Ytiacfaeanlkalaa
set_option maxRecDepth 100000
open Go.Conc Go.RowKit

/-- the jumps lie -/
def Jm (b o : Nat) (xs : List Int) (w : World) : Prop := ∀ k, k < xs.length → w.cell? ⟨b, o + k, none⟩ = some (.int .i64 (xs.getD k 0))

theorem terms_ds (K : World → Prop) (St : Loc → Prop) (B : Nat) : Terms (RK K) (DS St B) := ⟨fun _ _ _ _ h => h, ds_none⟩
theorem since_k {K : World → Prop} {w0 w : World} (h0 : K w0) (h : Since (RK K) w0 w) : K w := h.elim (fun e => e ▸ h0) id

/-- the slots at the loop's head -/
def TopB (b o c c1 c2 : Nat) (xs : List Int) (x0 : Int) (ds : List Deferred) (x : Int) (a : Act) : Prop := ∃ u0 u1 u2 u3 u4 u5 u6 u7 u8 u9 : Value, a = { tmps := #[.slice (some ⟨b, o, none⟩) xs.length c, .int .i64 x0, .chan (some c1), .chan (some c2), undef, undef, undef, undef, .int .i64 x, .chan (some c1), .int .i64 x0, u0, u1, u2, u3, u4, u5, u6, u7, u8, u9], defers := ds }
/-- .. at the select -/
def SelB (b o c c1 c2 : Nat) (xs : List Int) (x0 : Int) (ds : List Deferred) (x : Int) (a : Act) : Prop := ∃ u0 u1 u2 u3 u4 u5 u6 : Value, a = { tmps := #[.slice (some ⟨b, o, none⟩) xs.length c, .int .i64 x0, .chan (some c1), .chan (some c2), undef, undef, undef, undef, .int .i64 x, .chan (some c1), .int .i64 x0, u0, u1, u2, .chan (some c1), .int .i64 x, .chan (some c2), u3, u4, u5, u6], defers := ds }

theorem zero_int (w : World) : (zeroValue 3).run Try.prog w = .ok (.int .i64 0) w := by simp [go_sem]
theorem zero_bool (w : World) : (zeroValue 4).run Try.prog w = .ok (.bool false) w := by simp [go_sem]

variable {b o c c1 c2 N : Nat} {xs : List Int}

set_option maxRecDepth 100000 in
set_option maxHeartbeats 4000000 in
noncomputable def sendsB (K : World → Prop) (hK : ∀ w, K w → Jm b o xs w) (hN : b < N) (hJ : jumpsB xs = true) (x0 : Int) : Sends Try.prog 61 c1 c2 N K (.int .i64 0) (.bool false) (nextI xs) x0 where
  i0 := _
  i1 := _
  i6 := _
  iA := _
  oA := _
  oD := _
  B := _
  X0 := _
  ops6 := _
  o6 := _
  B2 := _
  R2 := _
  args := #[.slice (some ⟨b, o, none⟩) xs.length c, .int .i64 x0, .chan (some c1), .chan (some c2)]
  fn := _
  t := _
  ats := _
  vA := .chan (some c1)
  aA := { tmps := #[.slice (some ⟨b, o, none⟩) xs.length c, .int .i64 x0, .chan (some c1), .chan (some c2), undef, undef, undef, undef, undef, .chan (some c1), undef, undef, undef, undef, undef, undef, undef, undef, undef, undef, undef], defers := [] }
  TA := TopB b o c c1 c2 xs x0 [dclose #[65] 0 (.chan (some c1))]
  TS := SelB b o c c1 c2 xs x0 [dclose #[65] 0 (.chan (some c1))]
  hf := Try.func61
  hname := by rfl
  hres := rfl
  hrace := by rw [Try.func61]; rfl
  hb := rfl
  hsz := rfl
  ho6 := rfl
  wA := by rfl
  rA := fun _ => rfl
  eA := fun _ => rfl
  haA := by
    simp only [Try.ntmps61, List.size_toArray, List.length_cons, List.length_nil, Nat.reduceAdd, Nat.reduceSub, Array.replicate_succ, Array.replicate_zero, List.push_toArray, List.append_toArray, List.nil_append, List.cons_append]
    rfl
  wD := by rfl
  hD := rfl
  vD := by rfl
  hB := by
    refine ⟨_, ⟨undef, undef, undef, undef, undef, undef, undef, undef, undef, undef, rfl⟩, ?_⟩
    unfold Norm
    have T := terms_ds K (StillG c1 N) N
    co_apply Exists.intro
    intro w hw
    have hF : Since (RK K) w w := .refl _
    co_go T (Since.rely T) hF (co_quiet T)
    exact ⟨trivial, trivial, since_k hw hF⟩
  hX0 := by
    rintro x a ⟨u0, u1, u2, u3, u4, u5, u6, u7, u8, u9, rfl⟩
    refine ⟨_, ⟨u0, u1, u2, u6, u7, u8, u9, rfl⟩, ?_⟩
    unfold Norm
    have T := terms_ds K (StillG c1 N) N
    co_apply Exists.intro
    intro w hw
    have hF : Since (RK K) w w := .refl _
    co_go T (Since.rely T) hF (co_quiet T)
    exact ⟨trivial, trivial, since_k hw hF⟩
  wS := by
    rintro x a ⟨u0, u1, u2, u3, u4, u5, u6, rfl⟩
    rfl
  rS := by
    rintro x a ⟨u0, u1, u2, u3, u4, u5, u6, rfl⟩ u
    refine run_select2 (P := Try.prog) rfl ?_ ?_ ?_ zero_int zero_bool u <;> rfl
  eS := by
    rintro x a ⟨u0, u1, u2, u3, u4, u5, u6, rfl⟩ u
    exact events_select2 (P := Try.prog) rfl zero_int u
  hgo := by
    rintro x a ⟨u0, u1, u2, u3, u4, u5, u6, rfl⟩
    refine ⟨{ tmps := #[.slice (some ⟨b, o, none⟩) xs.length c, .int .i64 x0, .chan (some c1), .chan (some c2), undef, undef, undef, undef, .int .i64 x, .chan (some c1), .int .i64 x0, u0, u1, u2, .chan (some c1), .int .i64 x, .chan (some c2), .tuple #[.int .i64 0, .bool false, .bool false], .int .i64 0, .bool true, .bool false], defers := [dclose #[65] 0 (.chan (some c1))] }, { tmps := #[.slice (some ⟨b, o, none⟩) xs.length c, .int .i64 x0, .chan (some c1), .chan (some c2), undef, undef, undef, undef, .int .i64 x, .chan (some c1), .int .i64 x0, u0, u1, u2, .chan (some c1), .int .i64 x, .chan (some c2), .tuple #[.int .i64 0, .bool false, .bool false], .int .i64 0, .bool true, .bool false], defers := [dclose #[65] 0 (.chan (some c1))] }, { tmps := #[.slice (some ⟨b, o, none⟩) xs.length c, .int .i64 x0, .chan (some c1), .chan (some c2), undef, undef, undef, undef, .int .i64 (nextI xs x), .chan (some c1), .int .i64 x0, .slice (some ⟨b, o, none⟩) xs.length c, .int .i64 x, .int .i64 (nextI xs x), .chan (some c1), .int .i64 x, .chan (some c2), .tuple #[.int .i64 0, .bool false, .bool false], .int .i64 0, .bool true, .bool false], defers := [dclose #[65] 0 (.chan (some c1))] }, ⟨.slice (some ⟨b, o, none⟩) xs.length c, .int .i64 x, .int .i64 (nextI xs x), .chan (some c1), .int .i64 x, .chan (some c2), .tuple #[.int .i64 0, .bool false, .bool false], .int .i64 0, .bool true, .bool false, rfl⟩, ?_, ?_, ?_⟩
    · have T := terms_ds K (StillG c1 N) N
      co_apply Exists.intro
      intro w hw
      have hF : Since (RK K) w w := .refl _
      co_go T (Since.rely T) hF (co_quiet T)
      exact ⟨trivial, trivial, since_k hw hF⟩
    · unfold Norm
      have T := terms_ds K (StillG c1 N) N
      co_apply Exists.intro
      intro w hw
      have hF : Since (RK K) w w := .refl _
      co_go T (Since.rely T) hF (co_quiet T)
      co_apply wpC_cond T (t := true)
      focus (simp [Act.eval])
      simp only [if_true, if_false, reduceIte, Bool.false_eq_true]
      co_go T (Since.rely T) hF (co_quiet T)
      exact ⟨trivial, trivial, since_k hw hF⟩
    · unfold Norm
      have T := terms_ds K (StillG c1 N) N
      obtain ⟨k2, hc⟩ := nextPlace_c (main := false) T b o c (fun w o' => ⟨rfl, fun e he => ⟨⟨b, o', none⟩, by simpa using he, .inl ⟨_, rfl, hN⟩, hN⟩⟩) xs x hJ (fun w w1 h => hK w1 h)
      co_apply Exists.intro
      intro w hw
      have hF : Since (RK K) w w := .refl _
      co_go T (Since.rely T) hF (co_quiet T)
      co_apply opsC_call T (nf := k2) (Post := fun v w' => v = .int .i64 (nextI xs x) ∧ Since (RK K) w w') rfl (by rfl) rfl
      focus (simpa [Act.eval] using hc w _ (hK w hw) hF)
      rintro v w2 ⟨rfl, hF⟩
      try walk_nrm
      co_go T (Since.rely T) hF (co_quiet T)
      exact ⟨trivial, trivial, since_k hw hF⟩
  hstop := by
    rintro x a ⟨u0, u1, u2, u3, u4, u5, u6, rfl⟩
    refine ⟨{ tmps := #[.slice (some ⟨b, o, none⟩) xs.length c, .int .i64 x0, .chan (some c1), .chan (some c2), undef, undef, undef, undef, .int .i64 x, .chan (some c1), .int .i64 x0, u0, u1, u2, .chan (some c1), .int .i64 x, .chan (some c2), .tuple #[.int .i64 1, .bool true, .bool true], .int .i64 1, .bool false, .bool true], defers := [dclose #[65] 0 (.chan (some c1))] }, { tmps := #[.slice (some ⟨b, o, none⟩) xs.length c, .int .i64 x0, .chan (some c1), .chan (some c2), undef, undef, undef, undef, .int .i64 x, .chan (some c1), .int .i64 x0, u0, u1, u2, .chan (some c1), .int .i64 x, .chan (some c2), .tuple #[.int .i64 1, .bool true, .bool true], .int .i64 1, .bool false, .bool true], defers := [dclose #[65] 0 (.chan (some c1))] }, rfl, ?_, ?_⟩
    · have T := terms_ds K (StillG c1 N) N
      co_apply Exists.intro
      intro w hw
      have hF : Since (RK K) w w := .refl _
      co_go T (Since.rely T) hF (co_quiet T)
      exact ⟨trivial, trivial, since_k hw hF⟩
    · have T := terms_ds K (StillG c1 N) N
      co_apply Exists.intro
      intro w hw
      have hF : Since (RK K) w w := .refl _
      co_go T (Since.rely T) hF (co_quiet T)
      co_apply wpC_cond T (t := false)
      focus (simp [Act.eval])
      simp only [if_true, if_false, reduceIte, Bool.false_eq_true]
      co_go T (Since.rely T) hF (co_quiet T)
      co_apply wpC_cond T (t := true)
      focus (simp [Act.eval])
      simp only [if_true, if_false, reduceIte, Bool.false_eq_true]
      co_go T (Since.rely T) hF (co_quiet T)
      exact ⟨trivial, trivial, since_k hw hF⟩
end Go.Proofs.Ytiacfaeanlkalaa
