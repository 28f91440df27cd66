/- Chapter 2: valid lists of choices: contracts of the program and of the model. -/
import Derived.Test.YtgmhodmgbhpdaacRanks1
namespace Go.Proofs.Ytgmhodmgbhpdaac
open Go.ChangeShapes Go.WideShapes Go.ChangeAt Go.RowKit Go.Joins Go.Sort
set_option linter.unusedVariables false

theorem full_len : ∀ {n : Nat} {l : List Int}, l.Nodup → (∀ x ∈ l, 0 ≤ x ∧ x ≤ (n : Int) - 1) → l.length ≤ n ∧ (l.length = n → ∀ k : Nat, k < n → (k : Int) ∈ l) := by
  intro n
  induction n with
  | zero =>
    intro l _ h
    cases l with
    | nil => exact ⟨Nat.le_refl _, fun _ k hk => absurd hk (Nat.not_lt_zero _)⟩
    | cons a l => have := h a (List.mem_cons_self ..); omega
  | succ n ih =>
    intro l hn h
    by_cases hm : (n : Int) ∈ l
    · have hl := List.length_erase_of_mem hm
      have hp := List.length_pos_of_mem hm
      have hi := ih (hn.erase (n : Int)) (fun x hx => by
        have h1 := (hn.mem_erase_iff).1 hx
        have h2 := h x h1.2
        have h3 := h1.1
        refine ⟨h2.1, ?_⟩
        omega)
      refine ⟨by omega, fun e k hk => ?_⟩
      by_cases ek : k = n
      · subst ek; exact hm
      · exact List.mem_of_mem_erase (hi.2 (by omega) k (by omega))
    · have hi := ih hn (fun x hx => by
        have h2 := h x hx
        refine ⟨h2.1, ?_⟩
        by_cases e : x = (n : Int)
        · subst e; exact absurd hx hm
        · omega)
      exact ⟨by omega, fun e => by omega⟩
theorem cover_len : ∀ {n : Nat} {l : List Int}, (∀ k : Nat, k < n → (k : Int) ∈ l) → n ≤ l.length := by
  intro n
  induction n with
  | zero => intro l _; exact Nat.zero_le _
  | succ n ih =>
    intro l h
    have hm := h n (by omega)
    have hl := List.length_erase_of_mem hm
    have hp := List.length_pos_of_mem hm
    have := ih (l := l.erase (n : Int)) (fun k hk => (List.mem_erase_of_ne (by omega)).2 (h k (by omega)))
    omega
def fullI (c : Nat) : Int := (2 : Int) ^ c - 1
theorem setR_full (r : List Int) (c : Nat) : setR r c = fullI c ↔ r.length = c ∧ vmB r c = true := by
  have hp : (1 : Int) ≤ 2 ^ c := by
    have := Nat.two_pow_pos c
    have e : ((2 ^ c : Nat) : Int) = (2 : Int) ^ c := pow_cast c
    omega
  by_cases hv : vmB r c = true
  · have h := vmB_iff.1 hv
    rw [setR_yes hv]
    have hb := setN_bit r (fun x hx => (h.1 x hx).1) h.2
    constructor
    · intro e
      have e2 : setN r = 2 ^ c - 1 := by
        unfold fullI at e
        have e : ((2 ^ c : Nat) : Int) = (2 : Int) ^ c := pow_cast c
        omega
      have hall : ∀ k : Nat, k < c → (k : Int) ∈ r := fun k hk => by
        have h1 := hb k
        rw [e2, Nat.testBit_two_pow_sub_one, decide_eq_true hk] at h1
        exact of_decide_eq_true h1.symm
      have h1 := cover_len hall
      have h2 := (full_len h.2 h.1).1
      exact ⟨by omega, hv⟩
    · rintro ⟨e, _⟩
      have hall := (full_len h.2 h.1).2 e
      have e2 : setN r = 2 ^ c - 1 := by
        apply Nat.eq_of_testBit_eq
        intro k
        rw [hb k, Nat.testBit_two_pow_sub_one]
        by_cases hk : k < c
        · rw [decide_eq_true hk, decide_eq_true (hall k hk)]
        · rw [decide_eq_false hk]
          refine decide_eq_false fun hm => ?_
          have := (h.1 _ hm).2
          omega
      unfold fullI
      rw [e2, ← pow_cast]
      have := Nat.two_pow_pos c
      omega
  · rw [Bool.not_eq_true] at hv
    rw [setR_no hv]
    constructor
    · intro e; unfold fullI at e; omega
    · rintro ⟨_, h⟩; rw [hv] at h; cases h

/-- the lists are valid -/
def rowOk (rk : List (List Int)) (i : Nat) : Bool := decide ((rk.getD i []).length = (rk.getD 0 []).length) && vmB (rk.getD i []) (rk.getD 0 []).length
def vr (rk : List (List Int)) : Bool := decide (1 ≤ rk.length ∧ rk.length ≤ 12 ∧ 1 ≤ (rk.getD 0 []).length ∧ (rk.getD 0 []).length ≤ 6 ∧ ∀ i, i < rk.length → rowOk rk i = true)
theorem rowOk_iff {rk : List (List Int)} {i : Nat} : rowOk rk i = true ↔ (rk.getD i []).length = (rk.getD 0 []).length ∧ vmB (rk.getD i []) (rk.getD 0 []).length = true := by unfold rowOk; rw [Bool.and_eq_true, decide_eq_true_eq]
theorem vr_iff {rk : List (List Int)} : vr rk = true ↔ 1 ≤ rk.length ∧ rk.length ≤ 12 ∧ 1 ≤ (rk.getD 0 []).length ∧ (rk.getD 0 []).length ≤ 6 ∧ ∀ i, i < rk.length → rowOk rk i = true := by unfold vr; simp only [decide_eq_true_eq]
theorem vr_no {rk : List (List Int)} (h : ¬ (1 ≤ rk.length ∧ rk.length ≤ 12 ∧ 1 ≤ (rk.getD 0 []).length ∧ (rk.getD 0 []).length ≤ 6 ∧ ∀ i, i < rk.length → rowOk rk i = true)) : vr rk = false := decide_eq_false h

theorem implFullSet (c : Nat) (w : World) (hc : c ≤ 12) : Calls Try.prog 69 #[.int .i64 c] w (Same (.int .i64 (fullI c)) w) := by
  have hp := pow_bd (m := c) hc
  go_enter Try.func69, Try.ntmps69
  go_wp2
  go_ret
  exact Same.int rfl
set_option maxHeartbeats 1000000 in
theorem implVR (sa : Option Addr) (cap : Nat) (rk : List (List Int)) (w : World) (h : Mst w sa rk) (hl : rk.length ≤ 2000000) (hr : ∀ i, i < rk.length → (rk.getD i []).length ≤ 2000000) :
    Calls Try.prog 49 #[.slice sa rk.length cap] w (Same (.bool (vr rk)) w) := by
  have H := hide h; clear h
  have HR := hide hr; clear hr
  by_cases h1 : inr rk.length 1 12 = true
  · obtain ⟨h1a, h1b⟩ := inr_iff.1 h1
    obtain ⟨g, off, s0, k0, rfl, hg, c0, _, _⟩ := H.out.at (i := 0) (by omega)
    rw [Nat.add_zero] at c0
    have HV := hide (vr_iff (rk := rk))
    have HW := hide (vr_no (rk := rk))
    have HX := hide (fun i => @rowOk_iff rk i)
    obtain ⟨ch, hch⟩ : ∃ ch, ch = (rk.getD 0 []).length := ⟨_, rfl⟩; rw [← hch] at c0 HV HW HX
    clear hch
    by_cases h2 : inr ch 1 6 = true
    · obtain ⟨h2a, h2b⟩ := inr_iff.1 h2
      go_enter Try.func49, Try.ntmps49
      go_wp2_with fail; refine (Same.eqB (implInr _ _ _ _) h1).mono ?_; rintro e w' ⟨rfl, rfl⟩
      go_wp2_with fail; refine (Same.eqB (implInr _ _ _ _) h2).mono ?_; rintro e w' ⟨rfl, rfl⟩
      go_wp2
      go_loop [24] (fun i => ∃ k : Nat, k ≤ rk.length ∧ i = .int .i64 k ∧ Hid (∀ j, j < k → rowOk rk j = true)) (fun i => rk.length - (intOf i).toNat)
      case atStart => exact ⟨0, Nat.zero_le _, rfl, (show ∀ j, j < 0 → _ from fun j hj => absurd hj (Nat.not_lt_zero _))⟩
      case round =>
        obtain ⟨k, hk, rfl, HT⟩ := hrel
        by_cases hlt : k < rk.length
        · obtain ⟨g, off, si, ci, e, hg, c1, L1, _⟩ := H.out.at hlt
          cases e
          have hn := HR.out k hlt
          have HX2 := hide (HX.out k)
          by_cases hok : rowOk rk k = true
          · have HT2 := hide (show ∀ j, j < k + 1 → rowOk rk j = true from fun j hj => by
              by_cases e : j = k
              · subst e; exact hok
              · exact HT.out j (by omega))
            have hd : (setR (rk.getD k []) ch != fullI ch) = false := by
              rw [bne_eq_false_iff_eq]; exact (setR_full _ _).2 (HX2.out.1 hok)
            clear HX2
            obtain ⟨x, hx⟩ : ∃ x, x = rk.getD k [] := ⟨_, rfl⟩; rw [← hx] at c1 L1 hn hd
            clear hx hok
            go_wp2_with fail; refine (implSetOf si ci x ch _ L1 hn (by omega)).mono ?_; rintro e w' ⟨rfl, rfl⟩
            go_wp2_with fail; refine (implFullSet ch _ (by omega)).mono ?_; rintro e w' ⟨rfl, rfl⟩
            go_wp2
            go_round
            case rel => exact ⟨k + 1, by omega, by go_num, HT2⟩
            case measure => simp [intOf]; omega
          · have HF := hide (HW.out fun h => hok (h.2.2.2.2 k hlt))
            have hd : (setR (rk.getD k []) ch != fullI ch) = true := by
              rw [bne_iff_ne]; exact fun h => hok (HX2.out.2 ((setR_full _ _).1 h))
            clear HX2
            obtain ⟨x, hx⟩ : ∃ x, x = rk.getD k [] := ⟨_, rfl⟩; rw [← hx] at c1 L1 hn hd
            clear hx hok
            go_wp2_with fail; refine (implSetOf si ci x ch _ L1 hn (by omega)).mono ?_; rintro e w' ⟨rfl, rfl⟩
            go_wp2_with fail; refine (implFullSet ch _ (by omega)).mono ?_; rintro e w' ⟨rfl, rfl⟩
            go_wp2
            go_ret
            exact Same.bool HF.out.symm
        · have HF := hide (HV.out.2 ⟨by omega, by omega, by omega, by omega, fun i hi => HT.out i (by omega)⟩)
          go_wp2
          go_ret
          exact Same.bool HF.out.symm
    · have HF := hide (HW.out fun h => h2 (inr_iff.2 ⟨by omega, by omega⟩))
      rw [Bool.not_eq_true] at h2
      go_enter Try.func49, Try.ntmps49
      go_wp2_with fail; refine (Same.eqB (implInr _ _ _ _) h1).mono ?_; rintro e w' ⟨rfl, rfl⟩
      go_wp2_with fail; refine (Same.eqB (implInr _ _ _ _) h2).mono ?_; rintro e w' ⟨rfl, rfl⟩
      go_wp2
      go_ret
      exact Same.bool HF.out.symm
  · have HF := hide (vr_no (rk := rk) fun h => h1 (inr_iff.2 ⟨by omega, by omega⟩))
    rw [Bool.not_eq_true] at h1
    go_enter Try.func49, Try.ntmps49
    go_wp2_with fail; refine (Same.eqB (implInr _ _ _ _) h1).mono ?_; rintro e w' ⟨rfl, rfl⟩
    go_wp2
    go_ret
    exact Same.bool HF.out.symm
set_option maxHeartbeats 1000000 in
theorem specvR (sa : Option Addr) (cap : Nat) (rk : List (List Int)) (w : World) (h : Mst w sa rk) (hl : rk.length ≤ 2000000) (hr : ∀ i, i < rk.length → (rk.getD i []).length ≤ 2000000) :
    Calls Try.prog 88 #[.slice sa rk.length cap] w (Ret (.bool (vr rk)) w) := by
  have H := hide h; clear h
  have HR := hide hr; clear hr
  have HW := hide (vr_no (rk := rk))
  have HV := hide (vr_iff (rk := rk))
  go_enter Try.func88, Try.ntmps88
  go_wp2
  go_loopw [3] (fun i wr => ∃ k : Nat, k ≤ rk.length ∧ i = .int .i64 k ∧ Hid (∀ j, j < k → rowOk rk j = true) ∧ Ext w wr) (fun i _ => rk.length - (intOf i).toNat)
  case atStart => exact ⟨0, Nat.zero_le _, rfl, (show ∀ j, j < 0 → _ from fun j hj => absurd hj (Nat.not_lt_zero _)), Ext.refl _⟩
  case round =>
    obtain ⟨k, hk, rfl, HT, hE⟩ := hrel
    by_cases hlt : k < rk.length
    · obtain ⟨g, off, si, ci, rfl, hg, c1, L1, hci⟩ := (H.out.ext hE).at hlt
      obtain ⟨g2, off2, s0, k0, e, _, c0, _, _⟩ := (H.out.ext hE).at (i := 0) (by omega)
      cases e
      rw [Nat.add_zero] at c0
      have hn := HR.out k hlt
      have hn0 := HR.out 0 (by omega)
      have HX := hide (@rowOk_iff rk k)
      have HY := hide (show rowOk rk k = true → ∀ j, j < k + 1 → rowOk rk j = true from fun hok j hj => by
        by_cases e : j = k
        · subst e; exact hok
        · exact HT.out j (by omega))
      have HZ := hide (show ¬ rowOk rk k = true → vr rk = false from fun hok => HW.out fun h => hok (h.2.2.2.2 k hlt))
      obtain ⟨ch, hch⟩ : ∃ ch, ch = (rk.getD 0 []).length := ⟨_, rfl⟩; rw [← hch] at c0 HX hn0
      clear hch
      obtain ⟨x, hx⟩ : ∃ x, x = rk.getD k [] := ⟨_, rfl⟩; rw [← hx] at c1 L1 hn hci HX
      clear hx
      have r0 := cell_regrown c0
      have r1 := cell_regrown c1
      have HL := hide L1; clear L1
      by_cases hlen : x.length = ch
      · subst hlen
        have hd1 : ((x.length : Int) != x.length) = false := eq_len rfl
        by_cases hv : vmB x x.length = true
        · have HT2 := hide (HY.out (HX.out.2 ⟨rfl, hv⟩))
          clear c0 c1
          go_wp2
          refine wp_region_quiet_below (by kernel_rfl) (by kernel_rfl) ?_
          repeat (go_big_quiet_step ((first | (go_at_call 61; exact Ret.quiet (Ret.eqB (specVM _ _ x x.length _ (HL.out.ext (below_regrown _ _ _)) hn hci (by omega)) hv)))))
          refine wpQuiet_nil ?_; intro w9 hq; have E9 := Ext.class hq; clear hq
          go_wp2
          go_roundw
          case rel => exact ⟨k + 1, by omega, by go_num, HT2, hE.trans E9⟩
          case measure => simp [intOf]; omega
        · have HF := hide (HZ.out fun h => hv (HX.out.1 h).2)
          rw [Bool.not_eq_true] at hv
          clear c0 c1
          go_wp2
          refine wp_region_quiet_below (by kernel_rfl) (by kernel_rfl) ?_
          repeat (go_big_quiet_step ((first | (go_at_call 61; exact Ret.quiet (Ret.eqB (specVM _ _ x x.length _ (HL.out.ext (below_regrown _ _ _)) hn hci (by omega)) hv)))))
          refine wpQuiet_nil ?_; intro w9 hq; have E9 := Ext.class hq; clear hq
          go_wp2
          go_ret
          exact Ret.bool HF.out.symm (hE.trans E9)
      · have hd1 : ((x.length : Int) != (ch : Int)) = true := ne_len hlen
        have HF := hide (HZ.out fun h => hlen (HX.out.1 h).1)
        clear c0 c1
        go_wp2
        refine wp_region_quiet_below (by kernel_rfl) (by kernel_rfl) ?_
        repeat (go_big_quiet_step (fail))
        refine wpQuiet_nil ?_; intro w9 hq; have E9 := Ext.class hq; clear hq
        go_wp2
        go_ret
        exact Ret.bool HF.out.symm (hE.trans E9)
    · obtain rfl : k = rk.length := by omega
      by_cases h1 : inr rk.length 1 12 = true
      · obtain ⟨h1a, h1b⟩ := inr_iff.1 h1
        obtain ⟨g, off, s0, k0, rfl, hg, c0, _, _⟩ := (H.out.ext hE).at (i := 0) (by omega)
        rw [Nat.add_zero] at c0
        obtain ⟨ch, hch⟩ : ∃ ch, ch = (rk.getD 0 []).length := ⟨_, rfl⟩; rw [← hch] at c0 HV HW
        clear hch
        have HB := hide (show inr ch 1 6 = vr rk by
          rw [Bool.eq_iff_iff, inr_iff, HV.out]
          exact ⟨fun h => ⟨by omega, by omega, by omega, by omega, HT.out⟩, fun h => ⟨by omega, by omega⟩⟩)
        go_wp2_with fail; refine (Same.eqB (specInr _ _ _ _) h1).mono ?_; rintro e w' ⟨rfl, rfl⟩
        go_wp2_with fail; refine (specInr _ _ _ _).mono ?_; rintro e w' ⟨rfl, rfl⟩
        go_wp2
        go_ret
        exact Ret.bool HB.out hE
      · have HF := hide (HW.out fun h => h1 (inr_iff.2 ⟨by omega, by omega⟩))
        rw [Bool.not_eq_true] at h1
        go_wp2_with fail; refine (Same.eqB (specInr _ _ _ _) h1).mono ?_; rintro e w' ⟨rfl, rfl⟩
        go_wp2
        go_ret
        exact Ret.bool HF.out.symm hE
theorem specVR (sa : Option Addr) (cap : Nat) (rk : List (List Int)) (w : World) (h : Mst w sa rk) (hl : rk.length ≤ 2000000) (hr : ∀ i, i < rk.length → (rk.getD i []).length ≤ 2000000) :
    Calls Try.prog 50 #[.slice sa rk.length cap] w (Ret (.bool (vr rk)) w) := by
  go_enter Try.func50, Try.ntmps50
  go_wp2_with fail; refine (specvR _ _ _ _ h hl hr).mono ?_; rintro e w1 ⟨rfl, E1⟩
  go_wp2
  go_ret
  exact ⟨rfl, E1⟩
end Go.Proofs.Ytgmhodmgbhpdaac
