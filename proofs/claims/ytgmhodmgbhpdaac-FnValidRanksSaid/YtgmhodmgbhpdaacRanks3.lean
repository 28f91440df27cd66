/- Chapter 2: which choice lists prefer: contracts of the program and of the model. -/
import Derived.Test.YtgmhodmgbhpdaacRanks2
namespace Go.Proofs.Ytgmhodmgbhpdaac
open Go.ChangeShapes Go.WideShapes Go.ChangeAt Go.RowKit Go.Joins Go.Sort
set_option linter.unusedVariables false

/-- a list has one choice before another one -/
def bef (r : List Int) (a b : Int) : Bool := decide (plc r a < plc r b)
def btK (rk : List (List Int)) (a b : Int) : Nat → Nat
  | 0 => 0
  | k + 1 => btK rk a b k + if bef (rk.getD k []) a b = true then 1 else 0
theorem btK_yes {rk : List (List Int)} {a b : Int} {k : Nat} (h : bef (rk.getD k []) a b = true) : btK rk a b (k + 1) = btK rk a b k + 1 := by show btK rk a b k + _ = _; rw [if_pos h]
theorem btK_no {rk : List (List Int)} {a b : Int} {k : Nat} (h : bef (rk.getD k []) a b = false) : btK rk a b (k + 1) = btK rk a b k := by
  show btK rk a b k + _ = _; rw [if_neg (by rw [h]; simp)]; rfl
theorem btK_le (rk : List (List Int)) (a b : Int) (k : Nat) : btK rk a b k ≤ k := by
  induction k with
  | zero => exact Nat.le_refl _
  | succ k ih => unfold btK; split <;> omega
def bt (rk : List (List Int)) (a b : Int) : Nat := btK rk a b rk.length
theorem bt_le (rk : List (List Int)) (a b : Int) : bt rk a b ≤ rk.length := btK_le _ _ _ _
/-- a and b are different choices -/
def chs (rk : List (List Int)) (a b : Int) : Prop := a ≠ b ∧ (0 ≤ a ∧ a ≤ ((rk.getD 0 []).length : Int) - 1) ∧ (0 ≤ b ∧ b ≤ ((rk.getD 0 []).length : Int) - 1)
instance (rk : List (List Int)) (a b : Int) : Decidable (chs rk a b) := by unfold chs; infer_instance
def prf (rk : List (List Int)) (a b : Int) : Int := if vr rk = true ∧ chs rk a b then (bt rk a b : Int) else -1
theorem prf_yes {rk : List (List Int)} {a b : Int} (h : vr rk = true) (hc : chs rk a b) : prf rk a b = bt rk a b := if_pos ⟨h, hc⟩
theorem prf_no {rk : List (List Int)} {a b : Int} (h : ¬ (vr rk = true ∧ chs rk a b)) : prf rk a b = -1 := if_neg h
theorem vmB_two (a b : Int) (n : Nat) : vmB [a, b] n = true ↔ a ≠ b ∧ (0 ≤ a ∧ a ≤ (n : Int) - 1) ∧ (0 ≤ b ∧ b ≤ (n : Int) - 1) := by
  rw [vmB_iff]
  simp only [List.mem_cons, List.not_mem_nil, or_false, forall_eq_or_imp, forall_eq, List.nodup_cons, List.nodup_nil, not_false_eq_true, and_true]
  exact ⟨fun ⟨⟨h1, h2⟩, h3⟩ => ⟨h3, h1, h2⟩, fun ⟨h3, h1, h2⟩ => ⟨⟨h1, h2⟩, h3⟩⟩
/-- the facts of valid lists -/
theorem vr_row {rk : List (List Int)} (h : vr rk = true) {i : Nat} (hi : i < rk.length) : (rk.getD i []).length = (rk.getD 0 []).length ∧ (∀ x ∈ rk.getD i [], 0 ≤ x ∧ x ≤ ((rk.getD 0 []).length : Int) - 1) ∧ (rk.getD i []).Nodup := by
  obtain ⟨_, _, _, _, h5⟩ := vr_iff.1 h
  obtain ⟨e, hv⟩ := rowOk_iff.1 (h5 i hi)
  exact ⟨e, vmB_iff.1 hv⟩
theorem vr_mem {rk : List (List Int)} (h : vr rk = true) {i : Nat} (hi : i < rk.length) {x : Int} (h0 : 0 ≤ x) (h1 : x ≤ ((rk.getD 0 []).length : Int) - 1) : x ∈ rk.getD i [] := by
  obtain ⟨e, hx, hn⟩ := vr_row h hi
  obtain ⟨m, rfl⟩ := Int.eq_ofNat_of_zero_le h0
  exact (full_len hn hx).2 e m (by omega)
theorem plc_ne {r : List Int} {a b : Int} (ha : a ∈ r) (hb : b ∈ r) (hne : a ≠ b) : plc r a ≠ plc r b := by
  unfold plc
  rw [if_pos ha, if_pos hb]
  intro e
  have e2 : r.idxOf a = r.idxOf b := by omega
  have h1 := List.getElem_idxOf (List.idxOf_lt_length_iff.2 ha)
  have h2 := List.getElem_idxOf (List.idxOf_lt_length_iff.2 hb)
  apply hne
  rw [← h1, ← h2]
  congr 1
theorem btK_sum {rk : List (List Int)} (h : vr rk = true) {a b : Int} (hc : chs rk a b) : ∀ k, k ≤ rk.length → btK rk a b k + btK rk b a k = k := by
  intro k
  induction k with
  | zero => intro _; rfl
  | succ k ih =>
    intro hk
    have h1 := ih (by omega)
    have h2 := plc_ne (vr_mem h (show k < rk.length by omega) hc.2.1.1 hc.2.1.2) (vr_mem h (show k < rk.length by omega) hc.2.2.1 hc.2.2.2) hc.1
    by_cases hlt : plc (rk.getD k []) a < plc (rk.getD k []) b
    · rw [btK_yes (decide_eq_true hlt), btK_no (decide_eq_false (by omega))]; omega
    · rw [btK_no (decide_eq_false hlt), btK_yes (decide_eq_true (by omega))]; omega
theorem bt_sum {rk : List (List Int)} (h : vr rk = true) {a b : Int} (hc : chs rk a b) : bt rk a b + bt rk b a = rk.length := btK_sum h hc _ (Nat.le_refl _)
theorem chs.symm {rk : List (List Int)} {a b : Int} (h : chs rk a b) : chs rk b a := ⟨fun e => h.1 e.symm, h.2.2, h.2.1⟩

set_option maxHeartbeats 400000 in
theorem implPlaceOf (sa : Option Addr) (cap n : Nat) (l : List Int) (x : Int) (w : World) (h : Lst w sa l) (hn : l.length = n) (hl : n ≤ 2000000) :
    Calls Try.prog 111 #[.slice sa n cap, .int .i64 x] w (Same (.int .i64 (plc l x)) w) := by
  subst hn
  have H := hide h; clear h
  go_enter Try.func111, Try.ntmps111
  go_wp2
  go_loop [9] (fun i => ∃ c : Nat, c ≤ l.length ∧ i = .int .i64 c ∧ Hid (x ∉ l.take c)) (fun i => l.length - (intOf i).toNat)
  case atStart => exact ⟨0, Nat.zero_le _, rfl, show _ ∉ _ by simp⟩
  case round =>
    obtain ⟨c, hc, rfl, HN⟩ := hrel
    by_cases hlt : c < l.length
    · obtain ⟨g, off, rfl, hg, c1⟩ := H.out.at hlt
      by_cases he : l.getD c 0 = x
      · have HF := hide (show (c : Int) = plc l x by
          have := HN.out; rw [← he] at this ⊢; exact (plc_at hlt this).symm)
        rw [he] at c1
        clear he
        go_wp2
        go_ret
        exact Same.int HF.out
      · have HN2 := hide (show x ∉ l.take (c + 1) by
          rw [take_snoc l c hlt, List.mem_append, List.mem_singleton]
          rintro (h | h)
          · exact HN.out h
          · exact he h.symm)
        obtain ⟨y, hy⟩ : ∃ y, y = l.getD c 0 := ⟨_, rfl⟩; rw [← hy] at c1 he
        have hd : ((y : Int) == x) = false := by rw [beq_eq_false_iff_ne]; exact he
        clear hy he
        go_wp2
        go_round
        case rel => exact ⟨c + 1, by omega, by go_num, HN2⟩
        case measure => simp [intOf]; omega
    · have HF := hide (show (-1 : Int) = plc l x by
        have := HN.out; rw [List.take_of_length_le (by omega)] at this; exact (plc_out this).symm)
      go_wp2
      go_ret
      exact Same.int HF.out
end Go.Proofs.Ytgmhodmgbhpdaac
