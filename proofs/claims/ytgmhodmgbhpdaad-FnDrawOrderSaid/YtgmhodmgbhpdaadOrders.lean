/- Chapter 2: sets as lists, orders: contracts. -/
import Derived.Test.YtgmhodmgbhpdaadVetoes
namespace Go.Proofs.Ytgmhodmgbhpdaad
open Go.ChangeShapes Go.WideShapes Go.ChangeAt Go.RowKit Go.Joins Go.Sort
set_option linter.unusedVariables false

/-- the members of a set -/
def mems (s : Nat) : List Int := filK s.testBit 20
theorem filK_stop {p : Nat → Bool} {k m : Nat} (h : ∀ i, k ≤ i → p i = false) (hk : k ≤ m) : filK p m = filK p k := by
  induction m with
  | zero => obtain rfl : k = 0 := by omega
            rfl
  | succ m ih =>
    by_cases e : k = m + 1
    · rw [e]
    · rw [← filK_no (h m (by omega)), ih (by omega)]
theorem mems_at {s k : Nat} (h : s < 2 ^ k) (hk : k ≤ 20) : mems s = filK s.testBit k :=
  filK_stop (fun i hi => Nat.testBit_lt_two_pow (Nat.lt_of_lt_of_le h (pow_le hi))) hk
theorem mems_len (s : Nat) : (mems s).length ≤ 20 := filK_len _ _
theorem mems_len8 {s n : Nat} (h : s < 2 ^ n) (hn : n ≤ 20) : (mems s).length ≤ n := by rw [mems_at h hn]; exact filK_len _ _
theorem div_small {s k : Nat} (h : ¬ 0 < s / 2 ^ k) : s < 2 ^ k := by
  by_cases h2 : s < 2 ^ k
  · exact h2
  · exact absurd (Nat.div_pos (by omega) (Nat.two_pow_pos k)) h
theorem big_div {s k : Nat} (h : 0 < s / 2 ^ k) (hs : s ≤ 1000000) : k < 20 := by
  by_cases h2 : k < 20
  · exact h2
  · have : s < 2 ^ k := Nat.lt_of_lt_of_le (by omega) (pow_le (show 20 ≤ k by omega))
    rw [Nat.div_eq_of_lt this] at h; omega
theorem cast_div (s k : Nat) : ((s : Int) / 2 ^ k) = ((s / 2 ^ k : Nat) : Int) := by rw [Int.natCast_ediv]; norm_cast

set_option maxHeartbeats 1000000 in
theorem implListOf (s : Nat) (w : World) (hs : s ≤ 1000000) : Calls Try.prog 46 #[.int .i64 s] w (RetList (mems s) w) := by
  go_enter Try.func46, Try.ntmps46
  go_wp2
  go_loopw [3, 4] (fun v i wr => ∃ (c : Nat) (s2 : Option Addr) (c2 : Nat) (o : List Int), c ≤ 20 ∧ i = .int .i64 c ∧ v = .slice s2 o.length c2 ∧ Hid (o = filK s.testBit c) ∧ Row w.heap.size wr s2 c2 o ∧ Ext w wr) (fun _ i _ => 21 - (intOf i).toNat)
  case atStart => exact ⟨0, none, 0, [], by omega, rfl, rfl, rfl, Row.nil _ _, Ext.refl _⟩
  case round =>
    obtain ⟨c, s2, c2, o, hc, rfl, rfl, HO, hr, hE⟩ := hrel
    have ho : o.length ≤ c := by rw [HO.out]; exact filK_len _ _
    by_cases hlt : 0 < s / 2 ^ c
    · have hc20 := big_div hlt hs
      have hd : decide (0 < (s : Int) / 2 ^ c) = true := decide_eq_true (by rw [cast_div]; omega)
      by_cases hbit : s.testBit c = true
      · have HS := hide (show o ++ [(c : Int)] = filK s.testBit (c + 1) by rw [HO.out]; exact filK_yes hbit)
        go_wp2_with fail; refine (implHas s c _ hs (by omega)).mono ?_; rintro e w' ⟨rfl, rfl⟩
        go_wp2_with (first | (at_builtin; refine append_int rfl (.tmp 14) (.tmp 16) rfl w.heap.size wr s2 c2 o (c : Int) _ rfl rfl hr (by omega) hE.size ?_; intro g3 cap3 w3 R3 hb3))
        have E3 := Ext.of (Below.trans hE hb3)
        clear hb3
        go_wp2
        go_roundw
        case rel => exact ⟨c + 1, _, _, _, by omega, by go_num, by rw [len_snoc' o (c : Int)], HS, R3, E3⟩
        case measure => simp [intOf]; omega
      · rw [Bool.not_eq_true] at hbit
        have HS := hide (show o = filK s.testBit (c + 1) by rw [HO.out]; exact filK_no hbit)
        go_wp2_with fail; refine (implHas s c _ hs (by omega)).mono ?_; rintro e w' ⟨rfl, rfl⟩
        go_wp2
        go_roundw
        case rel => exact ⟨c + 1, _, _, _, by omega, by go_num, rfl, HS, hr, hE⟩
        case measure => simp [intOf]; omega
    · have hd : decide (0 < (s : Int) / 2 ^ c) = false := decide_eq_false (by rw [cast_div]; omega)
      have HG := hide (show mems s = o by rw [HO.out, mems_at (div_small hlt) hc])
      go_wp2
      go_ret
      exact ⟨s2, c2, by rw [HG.out]; rfl, by rw [HG.out]; exact hr, hE⟩

def fac : Nat → Nat
  | 0 => 1
  | n + 1 => (n + 1) * fac n
theorem fac_bd : ∀ n, n ≤ 8 → fac n ≤ 40320 := by decide
theorem fac_pos (n : Nat) : 0 < fac n := by
  induction n with
  | zero => exact Nat.one_pos
  | succ n ih => exact Nat.mul_pos (Nat.succ_pos n) ih
def fI (x : Int) : Int := fac x.toNat
theorem fI_bd {x : Int} (h : x ≤ 8) : 0 ≤ fI x ∧ fI x ≤ 40320 := by
  unfold fI; have := fac_bd x.toNat (by omega); omega
set_option maxHeartbeats 400000 in
theorem implOrders (x : Int) (w : World) (hx0 : -10 ≤ x) (hx : x ≤ 8) : Calls Try.prog 40 #[.int .i64 x] w (Same (.int .i64 (fI x)) w) := by
  go_enter Try.func40, Try.ntmps40
  go_wp2
  go_loop [3, 4] (fun a i => ∃ c q : Nat, ((c : Int) ≤ x ∨ c = 1) ∧ 1 ≤ c ∧ c ≤ 8 ∧ i = .int .i64 ((c : Int) + 1) ∧ a = .int .i64 q ∧ Hid (q = fac c) ∧ q ≤ 40320) (fun _ i => 10 - (intOf i).toNat)
  case atStart => exact ⟨1, 1, .inr rfl, by omega, by omega, rfl, rfl, rfl, by omega⟩
  case round =>
    obtain ⟨c, q, hc, hc1, hc8, rfl, rfl, HQ, hq⟩ := hrel
    by_cases hlt : (c : Int) + 1 ≤ x
    · have HQ2 := hide (show q * (c + 1) = fac (c + 1) by rw [HQ.out]; show _ = (c + 1) * fac c; rw [Nat.mul_comm])
      have hq2 : q * (c + 1) ≤ 40320 := by rw [HQ2.out]; exact fac_bd _ (by omega)
      have hbd : (0 : Int) ≤ (q : Int) * ((c : Int) + 1) ∧ (q : Int) * ((c : Int) + 1) ≤ 40320 := by
        have e : (q : Int) * ((c : Int) + 1) = ((q * (c + 1) : Nat) : Int) := by push_cast; rfl
        rw [e]; exact ⟨Int.natCast_nonneg _, Int.ofNat_le.2 hq2⟩
      go_wp2
      go_round
      case rel => exact ⟨c + 1, q * (c + 1), .inl (by omega), by omega, by omega, by push_cast; rfl, by push_cast; rfl, HQ2, hq2⟩
      case measure => simp [intOf]; omega
    · have HF := hide (show (q : Int) = fI x by
        unfold fI
        rcases hc with h1 | h1
        · rw [show x.toNat = c by omega, HQ.out]
        · by_cases h2 : x = 1
          · rw [h2, HQ.out, h1]; rfl
          · rw [show x.toNat = 0 by omega, HQ.out, h1]; rfl)
      go_wp2
      go_ret
      exact Same.int HF.out
set_option maxHeartbeats 400000 in
theorem specFac (x : Int) (w : World) (hx0 : -10 ≤ x) (hx : x ≤ 8) : Calls Try.prog 43 #[.int .i64 x] w (Same (.int .i64 (fI x)) w) := by
  go_enter Try.func43, Try.ntmps43
  go_wp2
  go_loop [3, 4] (fun a i => ∃ c q : Nat, ((c : Int) ≤ x ∨ c = 1) ∧ 1 ≤ c ∧ c ≤ 8 ∧ i = .int .i64 ((c : Int) + 1) ∧ a = .int .i64 q ∧ Hid (q = fac c) ∧ q ≤ 40320) (fun _ i => 10 - (intOf i).toNat)
  case atStart => exact ⟨1, 1, .inr rfl, by omega, by omega, rfl, rfl, rfl, by omega⟩
  case round =>
    obtain ⟨c, q, hc, hc1, hc8, rfl, rfl, HQ, hq⟩ := hrel
    by_cases hlt : (c : Int) + 1 ≤ x
    · have HQ2 := hide (show q * (c + 1) = fac (c + 1) by rw [HQ.out]; show _ = (c + 1) * fac c; rw [Nat.mul_comm])
      have hq2 : q * (c + 1) ≤ 40320 := by rw [HQ2.out]; exact fac_bd _ (by omega)
      have hbd : (0 : Int) ≤ (q : Int) * ((c : Int) + 1) ∧ (q : Int) * ((c : Int) + 1) ≤ 40320 := by
        have e : (q : Int) * ((c : Int) + 1) = ((q * (c + 1) : Nat) : Int) := by push_cast; rfl
        rw [e]; exact ⟨Int.natCast_nonneg _, Int.ofNat_le.2 hq2⟩
      go_wp2
      go_round
      case rel => exact ⟨c + 1, q * (c + 1), .inl (by omega), by omega, by omega, by push_cast; rfl, by push_cast; rfl, HQ2, hq2⟩
      case measure => simp [intOf]; omega
    · have HF := hide (show (q : Int) = fI x by
        unfold fI
        rcases hc with h1 | h1
        · rw [show x.toNat = c by omega, HQ.out]
        · by_cases h2 : x = 1
          · rw [h2, HQ.out, h1]; rfl
          · rw [show x.toNat = 0 by omega, HQ.out, h1]; rfl)
      go_wp2
      go_ret
      exact Same.int HF.out
end Go.Proofs.Ytgmhodmgbhpdaad
