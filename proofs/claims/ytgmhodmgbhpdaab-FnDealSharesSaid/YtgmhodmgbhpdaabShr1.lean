/- Chapter 4: rests, inverses, polynomials' values, places of shares: contracts of the program and of the model. -/
import Derived.Test.YtgmhodmgbhpdaabOrd0
import Derived.Test.YtgmhodmgbhpdaabPoly
namespace Go.Proofs.Ytgmhodmgbhpdaab
open Go.ChangeShapes Go.WideShapes Go.ChangeAt Go.RowKit Go.Joins Go.Sort
set_option linter.unusedVariables false

theorem pwn_succ (n k : Nat) : pwn n (k + 1) = pwn n k * n % 251 := rfl
theorem mulB {a b : Int} (h0 : 0 ≤ a) (h1 : a ≤ 250) (h2 : 0 ≤ b) (h3 : b ≤ 251) : 0 ≤ a * b ∧ a * b ≤ 62750 :=
  ⟨Int.mul_nonneg h0 h2, Int.mul_le_mul h1 h3 h2 (by omega)⟩
def invR (n : Int) : Int := if 1 ≤ n ∧ n ≤ 250 then iv n else -1
theorem invR_yes {n : Int} (h0 : 1 ≤ n) (h1 : n ≤ 250) : invR n = iv n := if_pos ⟨h0, h1⟩
theorem invR_no {n : Int} (h : ¬ (1 ≤ n ∧ n ≤ 250)) : invR n = -1 := if_neg h
theorem implIsRest (n : Int) (w : World) : Calls Try.prog 76 #[.int .i64 n] w (Same (.bool (inr n 0 250)) w) := by
  go_enter Try.func76, Try.ntmps76
  go_wp2_with fail; refine (implInr _ _ _ _).mono ?_; rintro e w' ⟨rfl, rfl⟩
  go_wp2
  go_ret
  exact Same.bool rfl
theorem specRest (n : Int) (w : World) : Calls Try.prog 74 #[.int .i64 n] w (Same (.bool (inr n 0 250)) w) := by
  go_enter Try.func74, Try.ntmps74
  go_wp2_with fail; refine (specInr _ _ _ _).mono ?_; rintro e w' ⟨rfl, rfl⟩
  go_wp2
  go_ret
  exact Same.bool rfl
set_option maxHeartbeats 400000 in
theorem specInverse (n : Int) (w : World) (h0 : 0 ≤ n) (h1 : n ≤ 250) : Calls Try.prog 84 #[.int .i64 n] w (Same (.int .i64 (iv n)) w) := by
  obtain ⟨P, hP⟩ : ∃ P : Nat → Int, P = fun c => ((pwn n.toNat c : Nat) : Int) := ⟨_, rfl⟩
  have hn : n = ((n.toNat : Nat) : Int) := by omega
  have HI := hide (show iv n = P 249 by rw [hP]; rfl)
  have HP0 := hide (show (1 : Int) = P 0 by rw [hP]; rfl)
  have HPS := hide (show ∀ c d, d = c + 1 → P c * n % 251 = P d from fun c d e => by
    subst e; rw [hP]; simp only [pwn_succ, Int.natCast_emod, Int.natCast_mul]; rw [← hn]; rfl)
  clear hP hn
  go_enter Try.func84, Try.ntmps84
  go_wp2
  go_loop [3, 4] (fun a i => ∃ (c : Nat) (q : Int), c ≤ 249 ∧ i = .int .i64 c ∧ a = .int .i64 q ∧ Hid (q = P c) ∧ 0 ≤ q ∧ q ≤ 250) (fun _ i => 249 - (intOf i).toNat)
  case atStart => exact ⟨0, 1, Nat.zero_le _, rfl, rfl, HP0.out, by omega, by omega⟩
  case round =>
    obtain ⟨c, q, hc, rfl, rfl, HQ, q0, q1⟩ := hrel
    have hc2 : (c : Int) ≤ 249 := by omega
    by_cases hlt : (c : Int) < 249
    · have hb := mulB q0 q1 h0 (by omega)
      go_wp2
      go_round
      case rel => exact ⟨c + 1, q * n % 251, by omega, by go_num, by go_num, (show q * n % 251 = P (c + 1) by rw [HQ.out]; exact HPS.out c _ rfl), by omega, by omega⟩
      case measure => (first | (simp [intOf]; done) | (simp [intOf]; omega))
    · have HF := hide (show P c = P 249 by congr 1; omega)
      go_wp2
      go_ret
      exact Same.int (by rw [HI.out, HQ.out, HF.out])
theorem inv_found {n k : Int} (h0 : 0 ≤ n) (h1 : n ≤ 250) (k0 : 1 ≤ k) (k1 : k ≤ 250) (h : n * k % 251 = 1) : k = invR n := by
  have hn : 1 ≤ n := by
    by_cases e : n = 0
    · subst e; simp at h
    · omega
  rw [invR_yes hn h1]
  exact iv_uniq hn h1 (by omega) k1 h
theorem inv_none {n : Int} (h0 : 0 ≤ n) (h1 : n ≤ 250) (h : ∀ j, 1 ≤ j → j < 251 → n * j % 251 ≠ 1) : invR n = -1 := by
  apply invR_no
  intro h2
  have h3 := iv_one h2.1 h2.2
  have h4 := iv_bd n
  have h5 := iv_pos h2.1 h2.2
  exact h _ h5 (by omega) h3
set_option maxHeartbeats 400000 in
theorem implInv (n : Int) (w : World) : Calls Try.prog 78 #[.int .i64 n] w (Same (.int .i64 (invR n)) w) := by
  by_cases h : inr n 0 250 = true
  · obtain ⟨h0, h1⟩ := inr_iff.1 h
    have HF := hide (fun k => @inv_found n k h0 h1)
    have HE := hide (@inv_none n h0 h1)
    go_enter Try.func78, Try.ntmps78
    go_wp2_with fail; refine (Same.eqB (implIsRest _ _) h).mono ?_; rintro e w' ⟨rfl, rfl⟩
    clear h
    go_wp2
    go_loop [3] (fun i => ∃ k : Int, 1 ≤ k ∧ k ≤ 251 ∧ i = .int .i64 k ∧ Hid (∀ j, 1 ≤ j → j < k → n * j % 251 ≠ 1)) (fun i => 251 - (intOf i).toNat)
    case atStart => exact ⟨1, by omega, by omega, rfl, (show ∀ j : Int, _ from fun j h1 h2 => by omega)⟩
    case round =>
      obtain ⟨k, k0, k1, rfl, HN⟩ := hrel
      by_cases hlt : k < 251
      · have hb := mulB h0 h1 (show 0 ≤ k by omega) (by omega)
        by_cases he : n * k % 251 = 1
        · have HK := hide (HF.out k k0 (by omega) he)
          have hd : (n * k % 251 == 1) = true := by rw [beq_iff_eq]; exact he
          clear he
          go_wp2
          go_ret
          exact Same.int HK.out
        · have HN2 := hide (show ∀ j, 1 ≤ j → j < k + 1 → n * j % 251 ≠ 1 from fun j j0 j1 => by
            by_cases e : j = k
            · rw [e]; exact he
            · exact HN.out j j0 (by omega))
          have hd : (n * k % 251 == 1) = false := by rw [beq_eq_false_iff_ne]; exact he
          clear he
          go_wp2
          go_round
          case rel => exact ⟨k + 1, by omega, by omega, by go_num, HN2⟩
          case measure => (first | (simp [intOf]; done) | (simp [intOf]; omega))
      · have HK := hide (HE.out fun j j0 j1 => HN.out j j0 (by omega))
        go_wp2
        go_ret
        exact Same.int HK.out.symm
  · have HF := hide (invR_no fun h2 => h (inr_iff.2 ⟨by omega, h2.2⟩) : invR n = -1)
    rw [Bool.not_eq_true] at h
    go_enter Try.func78, Try.ntmps78
    go_wp2_with fail; refine (Same.eqB (implIsRest _ _) h).mono ?_; rintro e w' ⟨rfl, rfl⟩
    go_wp2
    go_ret
    exact Same.int HF.out.symm
theorem rg_alli {l : List Int} : alli l 0 250 = true ↔ rg l := alli_iff
set_option maxHeartbeats 400000 in
theorem implRests (sa : Option Addr) (cap n : Nat) (l : List Int) (w : World) (h : Lst w sa l) (hn : l.length = n) (hl : n ≤ 2000000) :
    Calls Try.prog 71 #[.slice sa n cap] w (Same (.bool (alli l 0 250)) w) := by
  subst hn
  have H := hide h; clear h
  go_enter Try.func71, Try.ntmps71
  go_wp2
  go_loop [7] (fun i => ∃ k : Nat, k ≤ l.length ∧ i = .int .i64 k ∧ Hid (∀ x ∈ l.take k, (0 : Int) ≤ x ∧ x ≤ 250)) (fun i => l.length - (intOf i).toNat)
  case atStart => exact ⟨0, Nat.zero_le _, rfl, (show ∀ x ∈ l.take 0, (0 : Int) ≤ x ∧ x ≤ 250 by simp)⟩
  case round =>
    obtain ⟨k, hk, rfl, HT⟩ := hrel
    by_cases hlt : k < l.length
    · obtain ⟨g, off, rfl, hg, c1⟩ := H.out.at hlt
      obtain ⟨x, hx⟩ : ∃ x, x = l.getD k 0 := ⟨_, rfl⟩; rw [← hx] at c1
      have HX := hide hx; clear hx
      by_cases hin : inr x 0 250 = true
      · have HT2 := hide (all_succ HT.out hlt (by rw [← HX.out]; exact inr_iff.1 hin))
        go_wp2_with fail; refine (Same.eqB (implIsRest _ _) hin).mono ?_; rintro e w' ⟨rfl, rfl⟩
        go_wp2
        go_round
        case rel => exact ⟨k + 1, by omega, by go_num, HT2⟩
        case measure => (first | (simp [intOf]; done) | (simp [intOf]; omega))
      · have HF := hide (alli_no fun h => hin (inr_iff.2 (by rw [HX.out]; exact h _ (getD_mem hlt))) : alli l 0 250 = false)
        rw [Bool.not_eq_true] at hin
        go_wp2_with fail; refine (Same.eqB (implIsRest _ _) hin).mono ?_; rintro e w' ⟨rfl, rfl⟩
        go_wp2
        go_ret
        exact Same.bool (by rw [HF.out])
    · have HF := hide (show alli l 0 250 = true from alli_iff.2 (by have := HT.out; rwa [List.take_of_length_le (by omega)] at this))
      go_wp2
      go_ret
      exact Same.bool (by rw [HF.out])
/-- coefficients that are valid -/
def cfB (l : List Int) : Bool := decide (l.length ≤ 8) && alli l 0 250
theorem cfB_iff {l : List Int} : cfB l = true ↔ l.length ≤ 8 ∧ rg l := by unfold cfB; rw [Bool.and_eq_true, decide_eq_true_eq, rg_alli]
theorem cfB_long {l : List Int} (h : ¬ l.length ≤ 8) : cfB l = false := by rw [← Bool.not_eq_true, cfB_iff]; exact fun h2 => h h2.1
theorem cfB_short {l : List Int} (h : l.length ≤ 8) : alli l 0 250 = cfB l := by unfold cfB; rw [decide_eq_true h, Bool.true_and]
set_option maxHeartbeats 400000 in
theorem implCoefs (sa : Option Addr) (cap : Nat) (l : List Int) (w : World) (h : Lst w sa l) (hl : l.length ≤ 2000000) :
    Calls Try.prog 63 #[.slice sa l.length cap] w (Same (.bool (cfB l)) w) := by
  by_cases h8 : l.length ≤ 8
  · have hd : decide ((l.length : Int) ≤ 8) = true := decide_eq_true (by omega)
    have HF := hide (cfB_short h8)
    go_enter Try.func63, Try.ntmps63
    go_wp2_with fail; refine (implRests _ _ _ l _ h rfl hl).mono ?_; rintro e w' ⟨rfl, rfl⟩
    go_wp2
    go_ret
    exact Same.bool HF.out
  · have hd : decide ((l.length : Int) ≤ 8) = false := decide_eq_false (by omega)
    have HF := hide (cfB_long h8)
    go_enter Try.func63, Try.ntmps63
    go_wp2
    go_ret
    exact Same.bool HF.out.symm
set_option maxHeartbeats 400000 in
theorem specvPoly (sa : Option Addr) (cap n : Nat) (l : List Int) (w : World) (h : Lst w sa l) (hn : l.length = n) (hl : n ≤ 2000000) :
    Calls Try.prog 65 #[.slice sa n cap] w (Same (.bool (cfB l)) w) := by
  subst hn
  by_cases h8 : l.length ≤ 8
  · have hd : decide ((l.length : Int) ≤ 8) = true := decide_eq_true (by omega)
    have HF := hide (cfB_short h8)
    go_enter Try.func65, Try.ntmps65
    go_wp2_with fail; refine (specAllIn _ _ _ l 0 250 _ h rfl hl).mono ?_; rintro e w' ⟨rfl, rfl⟩
    go_wp2
    go_ret
    exact Same.bool HF.out
  · have hd : decide ((l.length : Int) ≤ 8) = false := decide_eq_false (by omega)
    have HF := hide (cfB_long h8)
    go_enter Try.func65, Try.ntmps65
    go_wp2
    go_ret
    exact Same.bool HF.out.symm
set_option maxHeartbeats 400000 in
theorem implVal (sa : Option Addr) (cap n : Nat) (l : List Int) (x : Int) (w : World) (h : Lst w sa l) (hn : l.length = n) (hl : n ≤ 2000000) (hr : rg l) (x0 : 0 ≤ x) (x1 : x ≤ 250) :
    Calls Try.prog 53 #[.slice sa n cap, .int .i64 x] w (Same (.int .i64 (pv l x)) w) := by
  subst hn
  have H := hide h; clear h
  have HR := hide hr; clear hr
  have HZ := hide (show pv (l.drop l.length) x = 0 by rw [List.drop_length]; rfl)
  go_enter Try.func53, Try.ntmps53
  go_wp2
  go_loop [5, 6] (fun v i => ∃ (k : Nat) (z : Int), k ≤ l.length ∧ (k : Int) ≤ z + 1 ∧ z + 1 ≤ (k : Int) ∧ i = .int .i64 z ∧ v = .int .i64 (pv (l.drop k) x)) (fun _ i => (intOf i + 1).toNat)
  case atStart => exact ⟨l.length, (l.length : Int) - 1, Nat.le_refl _, by omega, by omega, rfl, by rw [HZ.out]⟩
  case round =>
    obtain ⟨k, z, hk, z0, z1, rfl, rfl⟩ := hrel
    have hb := pv_bd (l.drop k) x
    by_cases hz : 0 ≤ z
    · obtain ⟨j, rfl⟩ := Int.eq_ofNat_of_zero_le hz
      obtain rfl : k = j + 1 := by omega
      have hb2 := mulB hb.1 hb.2 x0 (show x ≤ 251 by omega)
      obtain ⟨g, off, rfl, hg, c1⟩ := H.out.at (k := j) (by omega)
      have hc := rg_at HR.out j
      have HS := hide (pv_drop l j x (by omega))
      obtain ⟨y, hy⟩ : ∃ y, y = l.getD j 0 := ⟨_, rfl⟩; rw [← hy] at c1 hc HS
      obtain ⟨v, hv⟩ : ∃ v, v = pv (l.drop (j + 1)) x := ⟨_, rfl⟩; rw [← hv] at hb hb2 HS ⊢
      clear hy hv z0 z1
      go_wp2
      go_round
      case rel => exact ⟨j, (j : Int) - 1, by omega, by omega, by omega, by go_num, by rw [HS.out]⟩
      case measure => (first | (simp [intOf]; done) | (simp [intOf]; omega))
    · obtain rfl : k = 0 := by omega
      have HF := hide (show l.drop 0 = l from rfl)
      obtain ⟨v, hv⟩ : ∃ v, v = pv (l.drop 0) x := ⟨_, rfl⟩; rw [← hv] at hb ⊢
      have HV := hide hv; clear hv
      go_wp2
      go_ret
      exact Same.int HV.out
set_option maxHeartbeats 400000 in
theorem specVal (sa : Option Addr) (cap n : Nat) (l : List Int) (x : Int) (w : World) (h : Lst w sa l) (hn : l.length = n) (hl : n ≤ 2000000) (hr : rg l) (x0 : 0 ≤ x) (x1 : x ≤ 250) :
    Calls Try.prog 73 #[.slice sa n cap, .int .i64 x] w (Same (.int .i64 (pv l x)) w) := by
  subst hn
  have H := hide h; clear h
  have HR := hide hr; clear hr
  have HZ := hide (show pv (l.drop l.length) x = 0 by rw [List.drop_length]; rfl)
  go_enter Try.func73, Try.ntmps73
  go_wp2
  go_loop [5, 6] (fun v i => ∃ (k : Nat) (z : Int), k ≤ l.length ∧ (k : Int) ≤ z + 1 ∧ z + 1 ≤ (k : Int) ∧ i = .int .i64 z ∧ v = .int .i64 (pv (l.drop k) x)) (fun _ i => (intOf i + 1).toNat)
  case atStart => exact ⟨l.length, (l.length : Int) - 1, Nat.le_refl _, by omega, by omega, rfl, by rw [HZ.out]⟩
  case round =>
    obtain ⟨k, z, hk, z0, z1, rfl, rfl⟩ := hrel
    have hb := pv_bd (l.drop k) x
    by_cases hz : 0 ≤ z
    · obtain ⟨j, rfl⟩ := Int.eq_ofNat_of_zero_le hz
      obtain rfl : k = j + 1 := by omega
      have hb2 := mulB hb.1 hb.2 x0 (show x ≤ 251 by omega)
      obtain ⟨g, off, rfl, hg, c1⟩ := H.out.at (k := j) (by omega)
      have hc := rg_at HR.out j
      have HS := hide (pv_drop l j x (by omega))
      obtain ⟨y, hy⟩ : ∃ y, y = l.getD j 0 := ⟨_, rfl⟩; rw [← hy] at c1 hc HS
      obtain ⟨v, hv⟩ : ∃ v, v = pv (l.drop (j + 1)) x := ⟨_, rfl⟩; rw [← hv] at hb hb2 HS ⊢
      clear hy hv z0 z1
      go_wp2
      go_round
      case rel => exact ⟨j, (j : Int) - 1, by omega, by omega, by omega, by go_num, by rw [HS.out]⟩
      case measure => (first | (simp [intOf]; done) | (simp [intOf]; omega))
    · obtain rfl : k = 0 := by omega
      have HF := hide (show l.drop 0 = l from rfl)
      obtain ⟨v, hv⟩ : ∃ v, v = pv (l.drop 0) x := ⟨_, rfl⟩; rw [← hv] at hb ⊢
      have HV := hide hv; clear hv
      go_wp2
      go_ret
      exact Same.int HV.out
/-- a polynomial's value, -1 for other arguments -/
def paR (l : List Int) (x : Int) : Int := if cfB l = true ∧ inr x 0 250 = true then pv l x else -1
theorem paR_yes {l : List Int} {x : Int} (h : cfB l = true) (hx : inr x 0 250 = true) : paR l x = pv l x := if_pos ⟨h, hx⟩
theorem paR_no {l : List Int} {x : Int} (h : cfB l = false) : paR l x = -1 := if_neg fun h2 => by rw [h] at h2; simp at h2
theorem paR_no2 {l : List Int} {x : Int} (h : inr x 0 250 = false) : paR l x = -1 := if_neg fun h2 => by rw [h] at h2; simp at h2
set_option maxHeartbeats 400000 in
theorem implPolyAt (sa : Option Addr) (cap : Nat) (l : List Int) (x : Int) (w : World) (h : Lst w sa l) (hl : l.length ≤ 2000000) :
    Calls Try.prog 47 #[.slice sa l.length cap, .int .i64 x] w (Same (.int .i64 (paR l x)) w) := by
  by_cases hc : cfB l = true
  · by_cases hx : inr x 0 250 = true
    · have HF := hide (paR_yes hc hx)
      have HR := hide (cfB_iff.1 hc)
      have hx2 := inr_iff.1 hx
      go_enter Try.func47, Try.ntmps47
      go_wp2_with fail; refine (Same.eqB (implCoefs _ _ l _ h hl) hc).mono ?_; rintro e w' ⟨rfl, rfl⟩
      go_wp2_with fail; refine (Same.eqB (implIsRest _ _) hx).mono ?_; rintro e w' ⟨rfl, rfl⟩
      go_wp2_with fail; refine (implVal _ _ _ l x _ h rfl hl HR.out.2 (by omega) (by omega)).mono ?_; rintro e w' ⟨rfl, rfl⟩
      go_wp2
      go_ret
      exact Same.int HF.out.symm
    · rw [Bool.not_eq_true] at hx
      have HF := hide (paR_no2 (l := l) hx)
      go_enter Try.func47, Try.ntmps47
      go_wp2_with fail; refine (Same.eqB (implCoefs _ _ l _ h hl) hc).mono ?_; rintro e w' ⟨rfl, rfl⟩
      go_wp2_with fail; refine (Same.eqB (implIsRest _ _) hx).mono ?_; rintro e w' ⟨rfl, rfl⟩
      go_wp2
      go_ret
      exact Same.int HF.out.symm
  · rw [Bool.not_eq_true] at hc
    have HF := hide (paR_no (x := x) hc)
    go_enter Try.func47, Try.ntmps47
    go_wp2_with fail; refine (Same.eqB (implCoefs _ _ l _ h hl) hc).mono ?_; rintro e w' ⟨rfl, rfl⟩
    go_wp2
    go_ret
    exact Same.int HF.out.symm

/-- the first k places are valid -/
def plK (l : List Int) (k : Nat) : Prop := (∀ x ∈ l.take k, (1 : Int) ≤ x ∧ x ≤ 250) ∧ (l.take k).Nodup
open Classical in
noncomputable def plB (l : List Int) : Bool := decide (plOk l)
theorem plB_yes {l : List Int} (h : plOk l) : plB l = true := by unfold plB; simp [h]
theorem plB_no {l : List Int} (h : ¬ plOk l) : plB l = false := by unfold plB; simp [h]
theorem plB_iff {l : List Int} : plB l = true ↔ plOk l := by unfold plB; simp
theorem plc_lt {l : List Int} {x : Int} {k : Nat} (h : x ∈ l.take k) : plc l x < k := by
  have hm : x ∈ l := mem_take h
  unfold plc; rw [if_pos hm]
  have e : l.idxOf x = (l.take k).idxOf x := by
    conv => lhs; rw [← List.take_append_drop k l]
    rw [List.idxOf_append, if_pos h]
  have h2 := List.idxOf_lt_length_iff.2 h
  have h3 := List.length_take_le k l
  rw [e]; omega
theorem nodup_snoc {l : List Int} {k : Nat} (hk : k < l.length) (h : (l.take k).Nodup) (hm : l.getD k 0 ∉ l.take k) : (l.take (k + 1)).Nodup := by
  rw [take_snoc l k hk, List.nodup_append]
  refine ⟨h, by simp, fun x hx y hy => ?_⟩
  rw [List.mem_singleton] at hy; subst hy
  intro e; subst e; exact hm hx
theorem nodup_not {l : List Int} {k : Nat} (hk : k < l.length) (h : l.getD k 0 ∈ l.take k) : ¬ l.Nodup := fun hn => by
  have h2 : (l.take (k + 1)).Nodup := List.Sublist.nodup (List.take_sublist _ _) hn
  rw [take_snoc l k hk, List.nodup_append] at h2
  exact h2.2.2 _ h _ (by simp) rfl
set_option maxHeartbeats 800000 in
theorem implPlaces (sa : Option Addr) (cap n : Nat) (l : List Int) (w : World) (h : Lst w sa l) (hn : l.length = n) (hl : n ≤ 2000000) :
    Calls Try.prog 64 #[.slice sa n cap] w (Ret (.bool (plB l)) w) := by
  subst hn
  have H := hide h; clear h
  by_cases h12 : l.length ≤ 12
  · go_enter Try.func64, Try.ntmps64
    go_wp2
    go_loopw [10] (fun i wr => ∃ k : Nat, k ≤ l.length ∧ i = .int .i64 k ∧ Hid (plK l k) ∧ Ext w wr) (fun i _ => l.length - (intOf i).toNat)
    case atStart => exact ⟨0, Nat.zero_le _, rfl, (show plK l 0 from ⟨by simp, by simp⟩), Ext.refl _⟩
    case round =>
      obtain ⟨k, hk, rfl, HK, hE⟩ := hrel
      by_cases hlt : k < l.length
      · have HL := hide (H.out.ext hE)
        obtain ⟨g, off, rfl, hg, c1⟩ := HL.out.at hlt
        have HP := hide (@plc_at l k hlt)
        have HP2 := hide (@plc_lt l (l.getD k 0) k)
        have HIN := hide (fun (h : plOk l) => h.2.1 _ (getD_mem hlt))
        have HS := hide (fun (hi : 1 ≤ l.getD k 0 ∧ l.getD k 0 ≤ 250) hm => (show plK l (k + 1) from ⟨all_succ HK.out.1 hlt hi, nodup_snoc hlt HK.out.2 hm⟩))
        have HT := hide (fun hm (h : plOk l) => nodup_not hlt hm h.2.2)
        obtain ⟨x, hx⟩ : ∃ x, x = l.getD k 0 := ⟨_, rfl⟩; rw [← hx] at c1 HP HP2 HIN HS HT
        clear hx
        have HPl := hide (fun w2 (e : Ext wr w2) => implPlaceOf (some ⟨g, off, none⟩) cap l.length l x w2 (HL.out.ext e) rfl hl)
        by_cases hin : inr x 1 250 = true
        · by_cases hmem : x ∈ l.take k
          · have hd : decide (plc l x < (k : Int)) = true := decide_eq_true (HP2.out hmem)
            have HF := hide (plB_no (HT.out hmem))
            obtain ⟨p, hp⟩ : ∃ p, p = plc l x := ⟨_, rfl⟩; rw [← hp] at hd HPl
            clear hmem hp HP HP2
            go_wp2_with fail; refine (Same.eqB (implInr _ _ _ _) hin).mono ?_; rintro e w' ⟨rfl, rfl⟩
            go_wp2_with fail; refine (HPl.out _ (Ext.refl _)).mono ?_; rintro e w' ⟨rfl, rfl⟩
            go_wp2
            go_ret
            exact Ret.bool (by rw [HF.out]) hE
          · have HPx := hide (HP.out hmem)
            have hd : decide (plc l x < (k : Int)) = false := decide_eq_false (by rw [HPx.out]; omega)
            have HS2 := hide (HS.out (inr_iff.1 hin) hmem)
            obtain ⟨p, hp⟩ : ∃ p, p = plc l x := ⟨_, rfl⟩; rw [← hp] at hd HPl
            clear hmem hp HP HP2 HPx
            go_wp2_with fail; refine (Same.eqB (implInr _ _ _ _) hin).mono ?_; rintro e w' ⟨rfl, rfl⟩
            go_wp2_with fail; refine (HPl.out _ (Ext.refl _)).mono ?_; rintro e w' ⟨rfl, rfl⟩
            go_wp2
            go_roundw
            case rel => exact ⟨k + 1, by omega, by go_num, HS2, hE⟩
            case measure => (first | (simp [intOf]; done) | (simp [intOf]; omega))
        · have HF := hide (plB_no fun h => hin (inr_iff.2 (HIN.out h)))
          rw [Bool.not_eq_true] at hin
          go_wp2_with fail; refine (Same.eqB (implInr _ _ _ _) hin).mono ?_; rintro e w' ⟨rfl, rfl⟩
          go_wp2
          go_ret
          exact Ret.bool (by rw [HF.out]) hE
      · have HF := hide (plB_yes (show plOk l from ⟨h12, by have := HK.out.1; rwa [List.take_of_length_le (by omega)] at this, by have := HK.out.2; rwa [List.take_of_length_le (by omega)] at this⟩))
        go_wp2
        go_ret
        exact Ret.bool (by rw [HF.out]) hE
  · have HF := hide (plB_no (l := l) fun h => h12 h.1)
    have h12' : 12 < (l.length : Int) := by omega
    go_enter Try.func64, Try.ntmps64
    go_wp2
    go_ret
    exact Ret.bool (by rw [HF.out]) (Ext.refl _)
set_option maxHeartbeats 800000 in
theorem specPlaces (sa : Option Addr) (cap n : Nat) (l : List Int) (w : World) (h : Lst w sa l) (hn : l.length = n) (hl : n ≤ 2000000) (hcap : n ≤ cap) :
    Calls Try.prog 66 #[.slice sa n cap] w (Ret (.bool (plB l)) w) := by
  subst hn
  have H := hide h; clear h
  go_enter Try.func66, Try.ntmps66
  go_wp2
  go_loopw [3] (fun i wr => ∃ c : Nat, c ≤ l.length ∧ i = .int .i64 c ∧ Hid ((l.take c).Nodup) ∧ Ext w wr) (fun i _ => l.length - (intOf i).toNat)
  case atStart => exact ⟨0, Nat.zero_le _, rfl, (show (l.take 0).Nodup by simp), Ext.refl _⟩
  case round =>
    obtain ⟨c, hc, rfl, HK, hE⟩ := hrel
    by_cases hlt : c < l.length
    · have HL := hide (H.out.ext hE)
      obtain ⟨g, off, rfl, hg, c1⟩ := HL.out.at hlt
      have HS := hide (nodup_snoc hlt HK.out)
      have HT := hide (fun hm (h : plOk l) => nodup_not hlt hm h.2.2)
      obtain ⟨x, hx⟩ : ∃ x, x = l.getD c 0 := ⟨_, rfl⟩; rw [← hx] at c1 HS HT
      clear hx
      have r1 := cell_regrown c1
      have hccap : c ≤ cap := by omega
      by_cases hmem : x ∈ l.take c
      · have hd : decide ((0 : Int) ≤ plc (l.take c) x) = true := decide_eq_true (plc_in hmem)
        have HF := hide (plB_no (HT.out hmem))
        clear hmem
        go_wp2
        refine wp_region_quiet_below (by kernel_rfl) (by kernel_rfl) ?_
        repeat (go_big_quiet_step ((first | (go_at_call 80; exact Same.quiet (specPlaceIn _ _ _ (l.take c) x _ ((HL.out.take c).ext (below_regrown _ _ _)) (by simp; omega) (by omega))))))
        refine wpQuiet_nil ?_; intro w9 hq; have E9 := Ext.class hq; clear hq
        go_wp2
        go_ret
        exact Ret.bool (by rw [HF.out]) (hE.trans E9)
      · have hd : decide ((0 : Int) ≤ plc (l.take c) x) = false := decide_eq_false (by rw [plc_out hmem]; omega)
        have HS2 := hide (HS.out hmem)
        clear hmem
        go_wp2
        refine wp_region_quiet_below (by kernel_rfl) (by kernel_rfl) ?_
        repeat (go_big_quiet_step ((first | (go_at_call 80; exact Same.quiet (specPlaceIn _ _ _ (l.take c) x _ ((HL.out.take c).ext (below_regrown _ _ _)) (by simp; omega) (by omega))))))
        refine wpQuiet_nil ?_; intro w9 hq; have E9 := Ext.class hq; clear hq
        go_wp2
        go_roundw
        case rel => exact ⟨c + 1, by omega, by go_num, HS2, hE.trans E9⟩
        case measure => (first | (simp [intOf]; done) | (simp [intOf]; omega))
    · have HN := hide (show l.Nodup by have := HK.out; rwa [List.take_of_length_le (by omega)] at this)
      by_cases h12 : l.length ≤ 12
      · have hd : decide ((l.length : Int) ≤ 12) = true := decide_eq_true (by omega)
        have HF := hide (show alli l 1 250 = plB l by
          rw [Bool.eq_iff_iff, alli_iff, plB_iff]; exact ⟨fun h => ⟨h12, h, HN.out⟩, fun h => h.2.1⟩)
        go_wp2_with fail; refine (specAllIn _ _ _ l 1 250 _ (H.out.ext hE) rfl hl).mono ?_; rintro e w' ⟨rfl, rfl⟩
        go_wp2
        go_ret
        exact Ret.bool HF.out hE
      · have hd : decide ((l.length : Int) ≤ 12) = false := decide_eq_false (by omega)
        have HF := hide (plB_no (l := l) fun h => h12 h.1)
        go_wp2
        go_ret
        exact Ret.bool HF.out.symm hE
end Go.Proofs.Ytgmhodmgbhpdaab
