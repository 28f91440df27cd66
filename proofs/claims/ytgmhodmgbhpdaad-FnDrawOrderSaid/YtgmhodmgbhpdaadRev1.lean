/- Chapter 3: lists of reveals: where they lie; which are valid: contracts of the program and of the model. -/
import Derived.Test.YtgmhodmgbhpdaadCom1
namespace Go.Proofs.Ytgmhodmgbhpdaad
open Go.ChangeShapes Go.WideShapes Go.ChangeAt Go.RowKit Go.Joins Go.Sort
set_option linter.unusedVariables false

/-- a reveal: its commitment, its value, its salt -/
structure Rv where
  c : Int
  v : Int
  s : Int
def Rv.z : Rv := ⟨0, 0, 0⟩
/-- a list's reveals, where they can be read -/
def Rst (w : World) (sa : Option Addr) (ll : List Rv) : Prop :=
  ll = [] ∨ ∃ g off, sa = some ⟨g, off, none⟩ ∧ g < w.heap.size ∧ ∀ i, i < ll.length → w.cell? ⟨g, off + i * 3, none⟩ = some (.int .i64 (ll.getD i Rv.z).c) ∧ w.cell? ⟨g, off + i * 3 + 1, none⟩ = some (.int .i64 (ll.getD i Rv.z).v) ∧ w.cell? ⟨g, off + i * 3 + 2, none⟩ = some (.int .i64 (ll.getD i Rv.z).s)
theorem Rst.ext {w w' : World} {sa : Option Addr} {ll : List Rv} (h : Rst w sa ll) (e : Ext w w') : Rst w' sa ll := by
  rcases h with h | ⟨g, off, h1, h2, h3⟩
  · exact .inl h
  · refine .inr ⟨g, off, h1, e.lt h2, fun i hi => ?_⟩
    obtain ⟨a, b, c⟩ := h3 i hi
    exact ⟨(e.cell h2).trans a, (e.cell h2).trans b, (e.cell h2).trans c⟩
theorem Rst.at {w : World} {sa : Option Addr} {ll : List Rv} (h : Rst w sa ll) {i : Nat} (hi : i < ll.length) :
    ∃ g off, sa = some ⟨g, off, none⟩ ∧ g < w.heap.size ∧ w.cell? ⟨g, off + i * 3, none⟩ = some (.int .i64 (ll.getD i Rv.z).c) ∧ w.cell? ⟨g, off + i * 3 + 1, none⟩ = some (.int .i64 (ll.getD i Rv.z).v) ∧ w.cell? ⟨g, off + i * 3 + 2, none⟩ = some (.int .i64 (ll.getD i Rv.z).s) := by
  rcases h with h | ⟨g, off, h1, h2, h3⟩
  · subst h; simp at hi
  · obtain ⟨a, b, c⟩ := h3 i hi
    exact ⟨g, off, h1, h2, a, b, c⟩
/-- the first k reveals have values and salts in range -/
def rvOk (ll : List Rv) (k : Nat) : Prop := ∀ i, i < k → cOk (ll.getD i Rv.z).v (ll.getD i Rv.z).s
def rvsOk (ll : List Rv) : Prop := ll.length ≤ 12 ∧ rvOk ll ll.length
open Classical in
noncomputable def rvB (ll : List Rv) : Bool := decide (rvsOk ll)
theorem rvB_yes {ll : List Rv} (h : rvsOk ll) : rvB ll = true := by unfold rvB; simp [h]
theorem rvB_no {ll : List Rv} (h : ¬ rvsOk ll) : rvB ll = false := by unfold rvB; simp [h]
theorem rvOk_succ {ll : List Rv} {k : Nat} (h : rvOk ll k) (hk : cOk (ll.getD k Rv.z).v (ll.getD k Rv.z).s) : rvOk ll (k + 1) := fun i hi => by
  by_cases e : i = k
  · rw [e]; exact hk
  · exact h i (by omega)
set_option maxHeartbeats 400000 in
theorem specRvs (sa : Option Addr) (cap : Nat) (ll : List Rv) (w : World) (h : Rst w sa ll) (hl : ll.length ≤ 2000000) :
    Calls Try.prog 35 #[.slice sa ll.length cap] w (Same (.bool (rvB ll)) w) := by
  have H := hide h; clear h
  have HY := hide (@rvB_yes ll)
  have HN := hide (@rvB_no ll)
  go_enter Try.func35, Try.ntmps35
  go_wp2
  go_loop [3] (fun i => ∃ k : Nat, k ≤ ll.length ∧ i = .int .i64 k ∧ Hid (rvOk ll k)) (fun i => ll.length - (intOf i).toNat)
  case atStart => exact ⟨0, Nat.zero_le _, rfl, fun i hi => absurd hi (Nat.not_lt_zero _)⟩
  case round =>
    obtain ⟨k, hk, rfl, HK⟩ := hrel
    by_cases hlt : k < ll.length
    · obtain ⟨g, off, rfl, hg, q0, q1, q2⟩ := H.out.at hlt
      have HS := hide (fun h => rvOk_succ HK.out h)
      have HF := hide (show ¬ cOk (ll.getD k Rv.z).v (ll.getD k Rv.z).s → rvB ll = false from fun h => HN.out fun h2 => h (h2.2 k hlt))
      obtain ⟨v, hv⟩ : ∃ v, v = (ll.getD k Rv.z).v := ⟨_, rfl⟩; rw [← hv] at q1 HS HF
      obtain ⟨s, hs⟩ : ∃ s, s = (ll.getD k Rv.z).s := ⟨_, rfl⟩; rw [← hs] at q2 HS HF
      clear hv hs q0
      by_cases h1 : inr v 0 50000 = true
      · by_cases h2 : inr s 0 9999 = true
        · have HS2 := hide (HS.out ⟨inr_iff.1 h1, inr_iff.1 h2⟩)
          go_wp2_with fail; refine (Same.eqB (specInr _ _ _ _) h1).mono ?_; rintro e w' ⟨rfl, rfl⟩
          go_wp2_with fail; refine (Same.eqB (specInr _ _ _ _) h2).mono ?_; rintro e w' ⟨rfl, rfl⟩
          go_wp2
          go_round
          case rel => exact ⟨k + 1, by omega, by go_num, HS2⟩
          case measure => simp [intOf]; omega
        · have HG := hide (HF.out fun h => h2 (inr_iff.2 h.2))
          rw [Bool.not_eq_true] at h2
          go_wp2_with fail; refine (Same.eqB (specInr _ _ _ _) h1).mono ?_; rintro e w' ⟨rfl, rfl⟩
          go_wp2_with fail; refine (Same.eqB (specInr _ _ _ _) h2).mono ?_; rintro e w' ⟨rfl, rfl⟩
          go_wp2
          go_ret
          exact Same.bool (by rw [HG.out])
      · have HG := hide (HF.out fun h => h1 (inr_iff.2 h.1))
        rw [Bool.not_eq_true] at h1
        go_wp2_with fail; refine (Same.eqB (specInr _ _ _ _) h1).mono ?_; rintro e w' ⟨rfl, rfl⟩
        go_wp2
        go_ret
        exact Same.bool (by rw [HG.out])
    · obtain rfl : k = ll.length := by omega
      by_cases h12 : ll.length ≤ 12
      · have HG := hide (HY.out ⟨h12, HK.out⟩)
        have hd : decide ((ll.length : Int) ≤ 12) = true := decide_eq_true (by omega)
        go_wp2
        go_ret
        exact Same.bool (by rw [HG.out])
      · have HG := hide (HN.out fun h => h12 h.1)
        have hd : decide ((ll.length : Int) ≤ 12) = false := decide_eq_false (by omega)
        go_wp2
        go_ret
        exact Same.bool (by rw [HG.out])
set_option maxHeartbeats 400000 in
theorem implRvs (sa : Option Addr) (cap : Nat) (ll : List Rv) (w : World) (h : Rst w sa ll) (hl : ll.length ≤ 2000000) :
    Calls Try.prog 34 #[.slice sa ll.length cap] w (Ret (.bool (rvB ll)) w) := by
  have H := hide h; clear h
  have HY := hide (@rvB_yes ll)
  have HN := hide (@rvB_no ll)
  by_cases h12 : 12 < ll.length
  · have HG := hide (HN.out fun h => by have := h.1; omega)
    go_enter Try.func34, Try.ntmps34
    go_wp2
    go_ret
    exact Ret.bool (by rw [HG.out]) (Ext.refl _)
  · go_enter Try.func34, Try.ntmps34
    go_wp2
    go_loopw [10] (fun i wr => ∃ k : Nat, k ≤ ll.length ∧ i = .int .i64 k ∧ Hid (rvOk ll k) ∧ Ext w wr) (fun i _ => ll.length - (intOf i).toNat)
    case atStart => exact ⟨0, Nat.zero_le _, rfl, (show rvOk ll 0 from fun i hi => absurd hi (Nat.not_lt_zero _)), Ext.refl _⟩
    case round =>
      obtain ⟨k, hk, rfl, HK, hE⟩ := hrel
      by_cases hlt : k < ll.length
      · obtain ⟨g, off, rfl, hg, q0, q1, q2⟩ := (H.out.ext hE).at hlt
        have HS := hide (fun h => rvOk_succ HK.out h)
        have HF := hide (show ¬ cOk (ll.getD k Rv.z).v (ll.getD k Rv.z).s → rvB ll = false from fun h => HN.out fun h2 => h (h2.2 k hlt))
        obtain ⟨c, hc⟩ : ∃ c, c = (ll.getD k Rv.z).c := ⟨_, rfl⟩; rw [← hc] at q0
        obtain ⟨v, hv⟩ : ∃ v, v = (ll.getD k Rv.z).v := ⟨_, rfl⟩; rw [← hv] at q1 HS HF
        obtain ⟨s, hs⟩ : ∃ s, s = (ll.getD k Rv.z).s := ⟨_, rfl⟩; rw [← hs] at q2 HS HF
        clear hv hs hc
        have EA := hE.alloc (.cells #[.int .i64 c, .int .i64 v, .int .i64 s] 31)
        by_cases h1 : cOk v s
        · have HS2 := hide (HS.out h1)
          have hcm := cmt_bd h1
          have HC := hide (fun w2 => implCommit v s w2)
          rw [cm_yes h1] at HC
          obtain ⟨z, hz⟩ : ∃ z, z = cmt v s := ⟨_, rfl⟩; rw [← hz] at hcm HC
          have hd : decide (z < 0) = false := decide_eq_false (by omega)
          clear hz hcm h1
          go_wp2_with fail; refine (HC.out _).mono ?_; rintro e w' ⟨rfl, rfl⟩
          go_wp2
          go_roundw
          case rel => exact ⟨k + 1, by omega, by go_num, HS2, EA⟩
          case measure => simp [intOf]; omega
        · have HG := hide (HF.out h1)
          have HC := hide (fun w2 => implCommit v s w2)
          rw [cm_no h1] at HC
          clear h1
          go_wp2_with fail; refine (HC.out _).mono ?_; rintro e w' ⟨rfl, rfl⟩
          go_wp2
          go_ret
          exact Ret.bool (by rw [HG.out]) EA
      · obtain rfl : k = ll.length := by omega
        have HG := hide (HY.out ⟨by omega, HK.out⟩)
        go_wp2
        go_ret
        exact Ret.bool (by rw [HG.out]) hE
end Go.Proofs.Ytgmhodmgbhpdaad
