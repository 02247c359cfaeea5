/- Contracts: solutions, how many there are, whether there is just one: on both sides. -/
import Derived.Test.YteljaafehnhmcaaPzAl
import Derived.Test.YteljaafehnhmcaaPzL
namespace Go.Proofs.Yteljaafehnhmcaa
open Go.RowKit
set_option maxRecDepth 100000

def solR (ps : List Tri) : List Rc := if puzB ps then solL ps else []
theorem solR_le (ps : List Tri) : (solR ps).length ≤ 196 := by
  unfold solR
  split
  · exact solL_le ps
  · simp
theorem solN_eq (ps : List Tri) : solN ps = ((solR ps).length : Int) := by
  unfold solN solR
  split <;> simp
/-- WHAT A CALL LEAVES THAT ANSWERS SOLUTIONS -/
def SolPost (w : World) (ps : List Tri) (e : Ending) (w' : World) : Prop :=
  Below w.heap.size w w' ∧ ∃ v L, e = .returned (.tuple #[v, .bool (puzB ps)]) ∧ recL L = solR ps ∧ Stock w' w.heap.size v L
theorem puz_kinds {ps : List Tri} (h : puzB ps = true) : ∀ p ∈ ps, 0 ≤ p.1 ∧ p.1 ≤ 5 := by
  simp only [puzB, Bool.and_eq_true, List.all_eq_true] at h
  intro p hp
  have := clueB_kind (show clueB p.1 p.2.1 p.2.2 = true from h.2 p hp)
  omega
theorem hid_all {L : Lr} (h : recL L = hidL) : ∀ x ∈ L, x.2.2.1.length ≤ 1048576 ∧ x.2.2.2.length ≤ 1048576 := hid_lens h (fun _ hr => hidL_mem hr)
theorem rec_len {L : Lr} {ps : List Tri} (h : recL L = solR ps) : L.length = (solR ps).length := by rw [← h, recL_len]
theorem hid_len {L : Lr} (h : recL L = hidL) : L.length ≤ 1048576 := by
  have h1 := recL_len L
  rw [h, hidL_len] at h1
  omega
/-- what leftBy leaves of all hidden stairs -/
theorem left_sol {w w1 w2 : World} {ps : List Tri} {v0 : Value} {L : Lr} {e : Ending} (hb : Below w.heap.size w w1) (hst : Stock w1 w.heap.size v0 L) (hL : recL L = hidL) (h : LeftPost w1 v0 ps L e w2) : SolPost w ps e w2 := by
  obtain ⟨hb2, h⟩ := h
  refine ⟨hb.trans (hb2.mono hb.size), ?_⟩
  rcases h with ⟨hp, he⟩ | ⟨hp, v, he, h⟩
  · exact ⟨_, [], by rw [hp]; exact he, by simp [solR, hp, recL], Stock.nil _ _⟩
  · have hR : solR ps = solL ps := by simp [solR, hp]
    rw [hp]
    rcases h with ⟨h0, rfl⟩ | h
    · have : ps = [] := List.eq_nil_of_length_eq_zero h0
      subst this
      have hf : hidL.filter (fitsB []) = hidL := List.filter_eq_self.2 (fun r _ => fitsB_nil r)
      exact ⟨_, L, he, by rw [hL, hR]; exact hf.symm, hst.below hb2 (Nat.le_refl _)⟩
    · exact ⟨v, fitsL ps L, he, by rw [recL_fits, hL, hR]; rfl, Stock.filter _ hst h hb.size hb2⟩
def solvedB (ps : List Tri) : Bool := puzB ps && decide ((solL ps).length = 1)

set_option maxHeartbeats 1000000 in
theorem implSol_any (A : Option Addr) (c : Nat) (ps : List Tri) (B : Nat) (w : World) (hr : RdF w B A c ps) (hB : B ≤ w.heap.size) (hn : ps.length ≤ 1048576) :
    Calls Try.prog 70 #[pzv A ps.length c] w (SolPost w ps) := by
  have X0 : Blk (w.alloc (.cells #[.slice A ps.length c] 30)) w.heap.size 30 #[.slice A ps.length c] := Blk.new _ _ _
  have b0 : Below w.heap.size w (w.alloc (.cells #[.slice A ps.length c] 30)) := below_alloc _ _
  have hr0 := hr.below b0 hB
  have p0 := X0.cell 0
  have z0 : B ≤ (w.alloc (.cells #[.slice A ps.length c] 30)).heap.size := by simp; omega
  have hN := Lib.hid hn
  clear hr
  go_enter Try.func70, Try.ntmps70
  go_wp2_with fail
  generalize hu : w.alloc (.cells #[.slice A ps.length c] 30) = u at *
  have hU := Lib.hid hu
  clear hu
  go_region_held3 (fun u => u.cell? ⟨w.heap.size, 0, none⟩ = some (.slice A ps.length c)) (first | exact p0 | exact r0 | exact s0)
    (first
    | (go_at_call 26; (refine (hidden_any u.drew).mono ?_); rintro e w1 ⟨v0, L, rfl, hL, hst, k1⟩; have hb1 : Below u.heap.size u w1 := below_undrew k1; have r0 := (X0.below hb1 X0.lt).cell 0; obtain ⟨A0, c0, hv0, hrd, hall⟩ := hst.read (hid_all hL); subst hv0)
    | (go_at_call 27; (refine (leftBy_any A c ps A0 c0 L w1.heap.size w1 ((hr0.below hb1 z0).more (Nat.le_trans z0 hb1.size)) hrd hall (Nat.le_refl _) (hid_len hL) hN.out).mono ?_); rintro e w2 h2; have h3 := left_sol (b0.trans (hb1.mono b0.size)) (hst.mono b0.size) hL h2; have s0 := (X0.below (hb1.trans (h2.1.mono hb1.size)) X0.lt).cell 0; clear h2; obtain ⟨h4, v, L2, rfl, hL2, h5⟩ := h3; obtain ⟨A2, c2, hv2⟩ := h5.row.form; subst hv2)
    | fail
    )
  go_wp2_with fail
  go_ret2
  exact ⟨h4, _, L2, rfl, hL2, h5⟩

set_option maxHeartbeats 1000000 in
theorem implCountSol_any (A : Option Addr) (c : Nat) (ps : List Tri) (B : Nat) (w : World) (hr : RdF w B A c ps) (hB : B ≤ w.heap.size) (hn : ps.length ≤ 1048576) :
    Calls Try.prog 58 #[pzv A ps.length c] w (Plain (.tuple #[.int .i64 (solN ps), .bool (puzB ps)]) w) := by
  have X0 : Blk (w.alloc (.cells #[.slice A ps.length c] 30)) w.heap.size 30 #[.slice A ps.length c] := Blk.new _ _ _
  have b0 : Below w.heap.size w (w.alloc (.cells #[.slice A ps.length c] 30)) := below_alloc _ _
  have hr0 := hr.below b0 hB
  have p0 := X0.cell 0
  have z0 : B ≤ (w.alloc (.cells #[.slice A ps.length c] 30)).heap.size := by simp; omega
  have hN := Lib.hid hn
  clear hr p0
  rw [solN_eq]
  have hle := solR_le ps
  go_enter Try.func58, Try.ntmps58
  go_wp2_with fail
  refine (implSol_any A c ps B _ hr0 z0 hn).mono ?_
  rintro e w1 ⟨hb1, v, L, rfl, hL, hst⟩
  have hll := rec_len hL
  obtain ⟨A2, c2, hv2⟩ := hst.row.form
  subst hv2
  rw [elsL_len, hll]
  generalize (solR ps).length = m at *
  go_wp2_with fail
  go_ret2
  exact ⟨rfl, b0.trans (hb1.mono b0.size)⟩

theorem solved_eq (ps : List Tri) : solvedB ps = decide (solN ps = 1) := by
  unfold solvedB solN
  cases puzB ps
  · simp
  · simp
    omega
set_option maxHeartbeats 1000000 in
theorem implSolved_any (A : Option Addr) (c : Nat) (ps : List Tri) (B : Nat) (w : World) (hr : RdF w B A c ps) (hB : B ≤ w.heap.size) (hn : ps.length ≤ 1048576) :
    Calls Try.prog 31 #[pzv A ps.length c] w (Plain (.tuple #[.bool (solvedB ps), .bool (puzB ps)]) w) := by
  have X0 : Blk (w.alloc (.cells #[.slice A ps.length c] 30)) w.heap.size 30 #[.slice A ps.length c] := Blk.new _ _ _
  have b0 : Below w.heap.size w (w.alloc (.cells #[.slice A ps.length c] 30)) := below_alloc _ _
  have hr0 := hr.below b0 hB
  have p0 := X0.cell 0
  have z0 : B ≤ (w.alloc (.cells #[.slice A ps.length c] 30)).heap.size := by simp; omega
  have hN := Lib.hid hn
  clear hr p0
  rw [solved_eq]
  go_enter Try.func31, Try.ntmps31
  go_wp2_with fail
  refine (implCountSol_any A c ps B _ hr0 z0 hn).mono ?_
  rintro e w1 ⟨rfl, hb1⟩
  generalize solN ps = m at *
  go_wp2_with fail
  go_ret2
  exact ⟨rfl, b0.trans (hb1.mono b0.size)⟩

set_option maxHeartbeats 1000000 in
theorem pzSolved_any (A : Option Addr) (c : Nat) (ps : List Tri) (B : Nat) (w : World) (hr : RdF w B A c ps) (hB : B ≤ w.heap.size) (hn : ps.length ≤ 1048576) (hk : ∀ p ∈ ps, 0 ≤ p.1 ∧ p.1 ≤ 5) :
    Calls Try.prog 29 #[.slice A ps.length c] w (Plain (.bool (decide ((solL ps).length = 1))) w) := by
  have HC := Lib.hid (pzAll_any A c ps B w hr hB hn hk)
  clear hr hk
  have hle := solL_le ps
  go_enter Try.func29, Try.ntmps29
  go_wp2_with fail
  refine HC.out.mono ?_
  rintro e w2 ⟨v, L, rfl, hL, hst, hb2⟩
  have hll : L.length = (solL ps).length := by rw [← recL_len, hL]; rfl
  obtain ⟨A2, c2, hv2⟩ := hst.row.form
  subst hv2
  rw [elsL_len, hll]
  generalize (solL ps).length = m at *
  go_wp2_with fail
  go_ret
  exact ⟨ret_bool (by by_cases h : m = 1 <;> simp [h] <;> omega), hb2⟩

end Go.Proofs.Yteljaafehnhmcaa
