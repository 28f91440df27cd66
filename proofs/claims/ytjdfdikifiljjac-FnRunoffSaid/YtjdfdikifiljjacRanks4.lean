/- Chapter 2: the choice that beats all: contracts of the program and of the model. -/
import Derived.Test.YtjdfdikifiljjacRanks3
namespace Go.Proofs.Ytjdfdikifiljjac
open Go.ChangeShapes Go.WideShapes Go.ChangeAt Go.RowKit Go.Joins Go.Sort
set_option linter.unusedVariables false

/-- the first number of which something is true -/
def fst (p : Nat → Bool) : Nat → Int
  | 0 => -1
  | n + 1 => if 0 ≤ fst p n then fst p n else if p n = true then n else -1
theorem fst_none {p : Nat → Bool} {n : Nat} (h : ∀ j, j < n → p j = false) : fst p n = -1 := by
  induction n with
  | zero => rfl
  | succ n ih =>
    unfold fst
    rw [ih fun j hj => h j (by omega), if_neg (by omega), if_neg (by rw [h n (by omega)]; simp)]
theorem fst_at {p : Nat → Bool} {n k : Nat} (hk : k < n) (hp : p k = true) (h : ∀ j, j < k → p j = false) : fst p n = k := by
  induction n with
  | zero => omega
  | succ n ih =>
    unfold fst
    by_cases e : k = n
    · subst e; rw [fst_none h, if_neg (by omega), if_pos hp]
    · rw [ih (by omega), if_pos (by omega)]
/-- a is before each other choice in more lists than behind it -/
def btsB (rk : List (List Int)) (a : Nat) : Bool := decide (∀ b : Nat, b < (rk.getD 0 []).length → b ≠ a → rk.length < 2 * bt rk a b)
theorem btsB_iff {rk : List (List Int)} {a : Nat} : btsB rk a = true ↔ ∀ b : Nat, b < (rk.getD 0 []).length → b ≠ a → rk.length < 2 * bt rk a b := by unfold btsB; rw [decide_eq_true_eq]
theorem btsB_no {rk : List (List Int)} {a : Nat} (h : ¬ ∀ b : Nat, b < (rk.getD 0 []).length → b ≠ a → rk.length < 2 * bt rk a b) : btsB rk a = false := decide_eq_false h
def ba (rk : List (List Int)) : Int := if vr rk = true then fst (btsB rk) (rk.getD 0 []).length else -1
theorem ba_yes {rk : List (List Int)} (h : vr rk = true) : ba rk = fst (btsB rk) (rk.getD 0 []).length := if_pos h
theorem ba_no {rk : List (List Int)} (h : vr rk = false) : ba rk = -1 := if_neg (by rw [h]; simp)
theorem prf_le {rk : List (List Int)} (h : vr rk = true) {a b : Nat} (hne : b ≠ a) (ha : a < (rk.getD 0 []).length) (hb : b < (rk.getD 0 []).length) : prf rk a b ≤ prf rk b a ↔ ¬ rk.length < 2 * bt rk a b := by
  have hc : chs rk (a : Int) (b : Int) := ⟨by omega, ⟨by omega, by omega⟩, ⟨by omega, by omega⟩⟩
  rw [prf_yes h hc, prf_yes h hc.symm]
  have := bt_sum h hc
  omega

set_option maxHeartbeats 1000000 in
theorem implBeats (sa : Option Addr) (cap n : Nat) (rk : List (List Int)) (a : Nat) (w : World) (h : Mst w sa rk) (hn : rk.length = n) (hl : rk.length ≤ 2000000) (hr : ∀ i, i < rk.length → (rk.getD i []).length ≤ 2000000) (hv : vr rk = true) (ha : a < (rk.getD 0 []).length) :
    Calls Try.prog 58 #[.slice sa n cap, .int .i64 a] w (Same (.bool (btsB rk a)) w) := by
  subst hn
  have H := hide h; clear h
  have HR := hide hr; clear hr
  obtain ⟨h1, h2, h3, h4, _⟩ := vr_iff.1 hv
  have HC := hide fun x => implChoice sa cap rk.length rk x w H.out (by omega) (by omega) rfl
  have HP := hide fun b (hne : b ≠ a) hb => @prf_le rk hv a b hne ha hb
  have HI := hide (@btsB_iff rk a)
  have HJ := hide (@btsB_no rk a)
  clear hv
  obtain ⟨ch, hch⟩ : ∃ ch, ch = (rk.getD 0 []).length := ⟨_, rfl⟩; rw [← hch] at ha HC HP HI HJ h3 h4
  clear hch
  go_enter Try.func58, Try.ntmps58
  go_wp2
  go_loop [5] (fun i => ∃ k : Nat, k ≤ ch ∧ i = .int .i64 k ∧ Hid (∀ b : Nat, b < k → b ≠ a → rk.length < 2 * bt rk a b)) (fun i => ch - (intOf i).toNat)
  case atStart => exact ⟨0, Nat.zero_le _, rfl, (show ∀ b : Nat, b < 0 → _ from fun b hb => absurd hb (Nat.not_lt_zero _))⟩
  case round =>
    obtain ⟨k, hk, rfl, HT⟩ := hrel
    by_cases hlt : k < ch
    · have hi : inr (k : Int) 0 ((ch : Int) - 1) = true := inr_yes (by omega) (by omega)
      by_cases hne : k = a
      · have HT2 := hide (show ∀ b : Nat, b < k + 1 → b ≠ a → rk.length < 2 * bt rk a b from fun b hb hba => HT.out b (by omega) hba)
        have hd : ((k : Int) != (a : Int)) = false := eq_len hne
        clear hne
        go_wp2_with fail; refine (Same.eqB (HC.out _) hi).mono ?_; rintro e w' ⟨rfl, rfl⟩
        go_wp2
        go_round
        case rel => exact ⟨k + 1, by omega, by go_num, HT2⟩
        case measure => simp [intOf]; omega
      · have hd : ((k : Int) != (a : Int)) = true := ne_len hne
        by_cases hle : prf rk a k ≤ prf rk k a
        · have HF := hide (HJ.out fun h => (HP.out k hne hlt).1 hle (h k hlt hne))
          have hd2 : decide (prf rk a k ≤ prf rk k a) = true := decide_eq_true hle
          clear hne hle
          go_wp2_with fail; refine (Same.eqB (HC.out _) hi).mono ?_; rintro e w' ⟨rfl, rfl⟩
          go_wp2_with fail; refine (implPrefer _ _ rk _ _ _ H.out hl HR.out).mono ?_; rintro e w' ⟨rfl, rfl⟩
          go_wp2_with fail; refine (implPrefer _ _ rk _ _ _ H.out hl HR.out).mono ?_; rintro e w' ⟨rfl, rfl⟩
          go_wp2
          go_ret
          exact Same.bool HF.out.symm
        · have HT2 := hide (show ∀ b : Nat, b < k + 1 → b ≠ a → rk.length < 2 * bt rk a b from fun b hb hba => by
            by_cases e : b = k
            · subst e; exact Decidable.byContradiction fun h => hle ((HP.out b hba hlt).2 h)
            · exact HT.out b (by omega) hba)
          have hd2 : decide (prf rk a k ≤ prf rk k a) = false := decide_eq_false hle
          clear hne hle
          go_wp2_with fail; refine (Same.eqB (HC.out _) hi).mono ?_; rintro e w' ⟨rfl, rfl⟩
          go_wp2_with fail; refine (implPrefer _ _ rk _ _ _ H.out hl HR.out).mono ?_; rintro e w' ⟨rfl, rfl⟩
          go_wp2_with fail; refine (implPrefer _ _ rk _ _ _ H.out hl HR.out).mono ?_; rintro e w' ⟨rfl, rfl⟩
          go_wp2
          go_round
          case rel => exact ⟨k + 1, by omega, by go_num, HT2⟩
          case measure => simp [intOf]; omega
    · obtain rfl : k = ch := by omega
      have hi : inr (k : Int) 0 ((k : Int) - 1) = false := inr_no (by omega)
      have HF := hide (HI.out.2 HT.out)
      go_wp2_with fail; refine (Same.eqB (HC.out _) hi).mono ?_; rintro e w' ⟨rfl, rfl⟩
      go_wp2
      go_ret
      exact Same.bool HF.out.symm
set_option maxHeartbeats 1000000 in
theorem implBA (sa : Option Addr) (cap : Nat) (rk : List (List Int)) (w : World) (h : Mst w sa rk) (hl : rk.length ≤ 2000000) (hr : ∀ i, i < rk.length → (rk.getD i []).length ≤ 2000000) :
    Calls Try.prog 25 #[.slice sa rk.length cap] w (Same (.int .i64 (ba rk)) w) := by
  have H := hide h; clear h
  have HR := hide hr; clear hr
  by_cases hv : vr rk = true
  · obtain ⟨h1, h2, h3, h4, _⟩ := vr_iff.1 hv
    have HC := hide fun x => implChoice sa cap rk.length rk x w H.out (by omega) (by omega) rfl
    have HB := hide fun a ha => implBeats sa cap rk.length rk a w H.out rfl hl HR.out hv ha
    have HN := hide (fun h => (ba_yes hv).trans (fst_none (p := btsB rk) (n := (rk.getD 0 []).length) h))
    have HA := hide (fun k hk h1 h2 => (ba_yes hv).trans (fst_at (p := btsB rk) (n := (rk.getD 0 []).length) (k := k) hk h1 h2))
    obtain ⟨ch, hch⟩ : ∃ ch, ch = (rk.getD 0 []).length := ⟨_, rfl⟩; rw [← hch] at HC HB HN HA h3 h4
    clear hch
    go_enter Try.func25, Try.ntmps25
    go_wp2_with fail; refine (Same.eqB (implVR _ _ _ _ H.out hl HR.out) hv).mono ?_; rintro e w' ⟨rfl, rfl⟩
    go_wp2
    go_loop [3] (fun i => ∃ k : Nat, k ≤ ch ∧ i = .int .i64 k ∧ Hid (∀ j : Nat, j < k → btsB rk j = false)) (fun i => ch - (intOf i).toNat)
    case atStart => exact ⟨0, Nat.zero_le _, rfl, (show ∀ b : Nat, b < 0 → _ from fun b hb => absurd hb (Nat.not_lt_zero _))⟩
    case round =>
      obtain ⟨k, hk, rfl, HT⟩ := hrel
      by_cases hlt : k < ch
      · have hi : inr (k : Int) 0 ((ch : Int) - 1) = true := inr_yes (by omega) (by omega)
        by_cases hb : btsB rk k = true
        · have HF := hide (HA.out k hlt hb HT.out)
          go_wp2_with fail; refine (Same.eqB (HC.out _) hi).mono ?_; rintro e w' ⟨rfl, rfl⟩
          go_wp2_with fail; refine (Same.eqB (HB.out k hlt) hb).mono ?_; rintro e w' ⟨rfl, rfl⟩
          go_wp2
          go_ret
          exact Same.int HF.out.symm
        · rw [Bool.not_eq_true] at hb
          have HT2 := hide (show ∀ j : Nat, j < k + 1 → btsB rk j = false from fun j hj => by
            by_cases e : j = k
            · subst e; exact hb
            · exact HT.out j (by omega))
          go_wp2_with fail; refine (Same.eqB (HC.out _) hi).mono ?_; rintro e w' ⟨rfl, rfl⟩
          go_wp2_with fail; refine (Same.eqB (HB.out k hlt) hb).mono ?_; rintro e w' ⟨rfl, rfl⟩
          go_wp2
          go_round
          case rel => exact ⟨k + 1, by omega, by go_num, HT2⟩
          case measure => simp [intOf]; omega
      · obtain rfl : k = ch := by omega
        have hi : inr (k : Int) 0 ((k : Int) - 1) = false := inr_no (by omega)
        have HF := hide (HN.out HT.out)
        go_wp2_with fail; refine (Same.eqB (HC.out _) hi).mono ?_; rintro e w' ⟨rfl, rfl⟩
        go_wp2
        go_ret
        exact Same.int HF.out.symm
  · rw [Bool.not_eq_true] at hv
    have HF := hide (ba_no hv)
    go_enter Try.func25, Try.ntmps25
    go_wp2_with fail; refine (Same.eqB (implVR _ _ _ _ H.out hl HR.out) hv).mono ?_; rintro e w' ⟨rfl, rfl⟩
    go_wp2
    go_ret
    exact Same.int HF.out.symm
set_option maxHeartbeats 2000000 in
theorem specBA (sa : Option Addr) (cap : Nat) (rk : List (List Int)) (w : World) (h : Mst w sa rk) (hl : rk.length ≤ 2000000) (hr : ∀ i, i < rk.length → (rk.getD i []).length ≤ 2000000) :
    Calls Try.prog 24 #[.slice sa rk.length cap] w (Ret (.int .i64 (ba rk)) w) := by
  have H := hide h; clear h
  have HR := hide hr; clear hr
  by_cases hv : vr rk = true
  · obtain ⟨h1, h2, h3, h4, _⟩ := vr_iff.1 hv
    have HN := hide (fun h => (ba_yes hv).trans (fst_none (p := btsB rk) (n := (rk.getD 0 []).length) h))
    have HA := hide (fun k hk h1 h2 => (ba_yes hv).trans (fst_at (p := btsB rk) (n := (rk.getD 0 []).length) (k := k) hk h1 h2))
    have HI := hide (fun a => @btsB_iff rk a)
    have HL := hide (bt_le rk)
    obtain ⟨g, off, s0, k0, rfl, hg, c0, _, _⟩ := H.out.at (i := 0) (by omega)
    rw [Nat.add_zero] at c0
    obtain ⟨ch, hch⟩ : ∃ ch, ch = (rk.getD 0 []).length := ⟨_, rfl⟩; rw [← hch] at c0 HN HA HI h3 h4
    clear hch
    go_enter Try.func24, Try.ntmps24
    go_wp2_with fail; refine (Ret.eqB (specvR _ _ _ _ H.out hl HR.out) hv).mono ?_; rintro e w1 ⟨rfl, E1⟩
    go_wp2
    go_loopw [3] (fun i wr => ∃ k : Nat, k ≤ ch ∧ i = .int .i64 k ∧ Hid (∀ j : Nat, j < k → btsB rk j = false) ∧ Ext w wr) (fun i _ => ch - (intOf i).toNat)
    case atStart => exact ⟨0, Nat.zero_le _, rfl, (show ∀ b : Nat, b < 0 → _ from fun b hb => absurd hb (Nat.not_lt_zero _)), E1⟩
    case round =>
      obtain ⟨k, hk, rfl, HT, hE⟩ := hrel
      have c1 := (hE.cell (o := off) hg).trans c0
      by_cases hlt : k < ch
      · go_wp2
        go_loopw [4, 5] (fun f i wx => ∃ m : Nat, ∃ fb : Bool, m ≤ ch ∧ i = .int .i64 m ∧ f = .bool fb ∧ Hid (fb = true ↔ ∀ b : Nat, b < m → b ≠ k → rk.length < 2 * bt rk k b) ∧ Ext w wx) (fun _ i _ => ch - (intOf i).toNat)
        case atStart => exact ⟨0, true, Nat.zero_le _, rfl, rfl, (show true = true ↔ ∀ b : Nat, b < 0 → _ from ⟨fun _ b hb => absurd hb (Nat.not_lt_zero _), fun _ => rfl⟩), hE⟩
        case round =>
          obtain ⟨m, fb, hm, rfl, rfl, HM, hE2⟩ := hrel
          have c2 := (hE2.cell (o := off) hg).trans c0
          by_cases hlm : m < ch
          · cases fb with
            | false =>
              have HM2 := hide (show false = true ↔ ∀ b : Nat, b < m + 1 → b ≠ k → rk.length < 2 * bt rk k b from ⟨fun h => by (cases h), fun h => HM.out.2 fun b hb hbk => h b (by omega) hbk⟩)
              go_wp2
              go_roundw
              case rel => exact ⟨m + 1, false, by omega, by go_num, rfl, HM2, hE2⟩
              case measure => simp [intOf]; omega
            | true =>
              by_cases hkm : k = m
              · have HM2 := hide (show true = true ↔ ∀ b : Nat, b < m + 1 → b ≠ k → rk.length < 2 * bt rk k b from ⟨fun h b hb hbk => HM.out.1 rfl b (by omega) hbk, fun h => rfl⟩)
                have hd : ((k : Int) == (m : Int)) = true := eq_len' hkm
                clear hkm
                go_wp2
                go_roundw
                case rel => exact ⟨m + 1, true, by omega, by go_num, rfl, HM2, hE2⟩
                case measure => simp [intOf]; omega
              · have hd : ((k : Int) == (m : Int)) = false := ne_len' hkm
                have HM2 := hide (fun (f : Bool) (hf : f = decide (rk.length < 2 * bt rk k m)) => show f = true ↔ ∀ b : Nat, b < m + 1 → b ≠ k → rk.length < 2 * bt rk k b from hf ▸ ⟨fun h b hb hbk => by
                  by_cases e : b = m
                  · subst e; exact of_decide_eq_true h
                  · exact HM.out.1 rfl b (by omega) hbk, fun h => decide_eq_true (h m (by omega) (fun e => hkm e.symm))⟩)
                have hq := HL.out (k : Int) (m : Int)
                have HS := hide (specBeats (some ⟨g, off, none⟩) cap rk.length rk k m _ (H.out.ext hE2) rfl hl HR.out)
                obtain ⟨q, hq2⟩ : ∃ q, q = bt rk (k : Int) (m : Int) := ⟨_, rfl⟩; rw [← hq2] at hq HM2 HS
                clear hq2 hkm
                by_cases hlq : rk.length < 2 * q
                · have hd2 : decide ((rk.length : Int) < 2 * (q : Int)) = true := decide_eq_true (by omega)
                  have HM3 := hide ((HM2.out true (decide_eq_true hlq).symm).1 rfl)
                  go_wp2_with fail; refine (HS.out).mono ?_; rintro e w9 ⟨rfl, E9⟩
                  go_wp2
                  go_roundw
                  case rel => exact ⟨m + 1, true, by omega, by go_num, rfl, (show true = true ↔ _ from ⟨fun _ => HM3.out, fun _ => rfl⟩), hE2.trans E9⟩
                  case measure => simp [intOf]; omega
                · have hd2 : decide ((rk.length : Int) < 2 * (q : Int)) = false := decide_eq_false (by omega)
                  have HM3 := hide (HM2.out false (decide_eq_false hlq).symm)
                  go_wp2_with fail; refine (HS.out).mono ?_; rintro e w9 ⟨rfl, E9⟩
                  go_wp2
                  go_roundw
                  case rel => exact ⟨m + 1, false, by omega, by go_num, rfl, HM3, hE2.trans E9⟩
                  case measure => simp [intOf]; omega
          · obtain rfl : m = ch := by omega
            cases fb with
            | true =>
              have HF := hide (HA.out k hlt ((HI.out k).2 (HM.out.1 rfl)) HT.out)
              go_wp2
              go_ret
              exact Ret.int HF.out.symm hE2
            | false =>
              have HT2 := hide (show ∀ j : Nat, j < k + 1 → btsB rk j = false from fun j hj => by
                by_cases e : j = k
                · subst e
                  cases hb : btsB rk j with
                  | false => rfl
                  | true => exact absurd (HM.out.2 ((HI.out j).1 hb)) (by simp)
                · exact HT.out j (by omega))
              go_wp2
              go_roundw
              case rel => exact ⟨k + 1, by omega, by go_num, HT2, hE2⟩
              case measure => simp [intOf]; omega
      · obtain rfl : k = ch := by omega
        have HF := hide (HN.out HT.out)
        go_wp2
        go_ret
        exact Ret.int HF.out.symm hE
  · rw [Bool.not_eq_true] at hv
    have HF := hide (ba_no hv)
    go_enter Try.func24, Try.ntmps24
    go_wp2_with fail; refine (Ret.eqB (specvR _ _ _ _ H.out hl HR.out) hv).mono ?_; rintro e w1 ⟨rfl, E1⟩
    go_wp2
    go_ret
    exact Ret.int HF.out.symm E1
end Go.Proofs.Ytjdfdikifiljjac
