/- Chapter 3: what each member gets in a round: contracts of the program and of the model. -/
import Derived.Test.YthbkkbcbhhmhoabBid1
import Derived.Test.YthbkkbcbhhmhoabOrdP
import Derived.Test.YthbkkbcbhhmhoabSplit
namespace Go.Proofs.Ythbkkbcbhhmhoab
open Go.ChangeShapes Go.WideShapes Go.ChangeAt Go.RowKit Go.Joins Go.Sort
set_option linter.unusedVariables false

/-- a part of an equal division -/
def prt (g d : Int) (j : Nat) : Int := if (j : Int) < g % d then g / d + 1 else g / d
theorem splitL_prt (g d : Int) (k i : Nat) (h : i < k) : (splitL g d k).getD i 0 = prt g d i := by simp [splitL, prt, List.getD_eq_getElem?_getD, h]
def sumP (g d : Int) : Nat → Int
  | 0 => 0
  | k + 1 => sumP g d k + prt g d k
theorem sumP_eq (g d : Int) (hd : 0 ≤ g % d) (k : Nat) : sumP g d k = (k : Int) * (g / d) + (if (k : Int) ≤ g % d then (k : Int) else g % d) := by
  induction k with
  | zero => simp [sumP]; omega
  | succ k ih =>
    show sumP g d k + prt g d k = _
    rw [ih, Int.natCast_add, Int.add_mul]
    unfold prt
    split <;> split <;> split <;> omega
theorem sumP_full {g d : Int} (h : 1 ≤ d) : sumP g d d.toNat = g := by
  have h1 := Int.emod_nonneg g (show d ≠ 0 by omega)
  have h2 := Int.emod_lt_of_pos g (show 0 < d by omega)
  rw [sumP_eq g d h1, if_neg (by omega), show ((d.toNat : Nat) : Int) = d by omega]
  exact Int.mul_ediv_add_emod g d
theorem prt_bd {g d : Int} (hg : 0 ≤ g) (hd : 1 ≤ d) (j : Nat) : 0 ≤ prt g d j ∧ prt g d j ≤ g + 1 := by
  have h1 := Int.ediv_nonneg hg (show 0 ≤ d by omega)
  have h2 := Int.ediv_le_self d hg
  unfold prt; split <;> omega
theorem sumP_bd {g d : Int} (hg : 0 ≤ g) (hd : 1 ≤ d) : ∀ k : Nat, k ≤ d.toNat → 0 ≤ sumP g d k ∧ sumP g d k ≤ g := by
  have hm : ∀ j k : Nat, j ≤ k → sumP g d j ≤ sumP g d k := by
    intro j k h
    induction k with
    | zero => obtain rfl : j = 0 := by omega
              exact Int.le_refl _
    | succ k ih =>
      by_cases e : j = k + 1
      · subst e; exact Int.le_refl _
      · have h1 := ih (by omega)
        have h2 := (prt_bd hg hd k).1
        show _ ≤ sumP g d k + prt g d k
        omega
  intro k hk
  have h1 := hm 0 k (by omega)
  have h2 := hm k d.toNat hk
  rw [sumP_full hd] at h2
  exact ⟨h1, h2⟩
/-- what each gets: all but the winner have a part of the gift -/
def payT (n : Nat) (q : Int) (k : Nat) (g : Int) : List Int := (List.range n).map fun i => if i = k then q - g else prt g ((n : Int) - 1) (if i < k then i else i - 1)
theorem payT_len (n : Nat) (q : Int) (k : Nat) (g : Int) : (payT n q k g).length = n := by simp [payT]
theorem payT_at (n : Nat) (q : Int) (k : Nat) (g : Int) (i : Nat) (h : i < n) : (payT n q k g).getD i 0 = if i = k then q - g else prt g ((n : Int) - 1) (if i < k then i else i - 1) := by
  simp [payT, List.getD_eq_getElem?_getD, h]
/-- part by part -/
def payR (n : Nat) (q : Int) (k : Nat) (g : Int) : Nat → List Int
  | 0 => (zeros n).set k q
  | i + 1 => ((payR n q k g i).set (ob k i) (prt g ((n : Int) - 1) i)).set k (q - sumP g ((n : Int) - 1) (i + 1))
theorem payR_len (n : Nat) (q : Int) (k : Nat) (g : Int) (i : Nat) : (payR n q k g i).length = n := by
  induction i with
  | zero => show ((zeros n).set _ _).length = n; rw [List.length_set, zeros_len]
  | succ i ih => show (((payR n q k g i).set _ _).set _ _).length = n; rw [List.length_set, List.length_set, ih]
theorem ob_idx (k i : Nat) : (if ob k i < k then ob k i else ob k i - 1) = i := by
  unfold ob
  by_cases h : i < k
  · rw [if_pos h, if_pos h]
  · rw [if_neg h, if_neg (by omega)]; omega
theorem idx_ob {k i j : Nat} (hj : j ≠ k) (h : (if j < k then j else j - 1) = i) : j = ob k i := by
  unfold ob
  by_cases h2 : j < k
  · rw [if_pos h2] at h; rw [if_pos (by omega)]; omega
  · rw [if_neg h2] at h; rw [if_neg (by omega)]; omega
theorem payR_at (n : Nat) (q : Int) (k : Nat) (g : Int) (hk : k < n) : ∀ i, i ≤ n - 1 → ∀ j, j < n → (payR n q k g i).getD j 0 = if j = k then q - sumP g ((n : Int) - 1) i else if (if j < k then j else j - 1) < i then prt g ((n : Int) - 1) (if j < k then j else j - 1) else 0 := by
  intro i
  induction i with
  | zero =>
    intro _ j hj
    show ((zeros n).set _ _).getD j 0 = _
    rw [set_at _ _ _ _ (by rw [zeros_len]; exact hk)]
    by_cases e : j = k
    · subst e; simp [sumP]
    · rw [if_neg e, if_neg e, zeros_at, if_neg (Nat.not_lt_zero _)]
  | succ i ih =>
    intro hi j hj
    have ho : ob k i < n := by unfold ob; split <;> omega
    show (((payR n q k g i).set _ _).set _ _).getD j 0 = _
    rw [set_at _ _ _ _ (by rw [List.length_set, payR_len]; exact hk)]
    by_cases e : j = k
    · rw [if_pos e, if_pos e]
    · rw [if_neg e, if_neg e, set_at _ _ _ _ (by rw [payR_len]; exact ho), ih (by omega) j hj, if_neg e]
      by_cases e2 : j = ob k i
      · have e3 : (if j < k then j else j - 1) = i := by rw [e2]; exact ob_idx k i
        rw [if_pos e2, e3, if_pos (Nat.lt_succ_self i)]
      · have e3 : (if j < k then j else j - 1) ≠ i := by
          exact fun h => e2 (idx_ob e h)
        rw [if_neg e2]
        obtain ⟨x, hx⟩ : ∃ x, x = (if j < k then j else j - 1) := ⟨_, rfl⟩
        rw [← hx] at e3 ⊢
        by_cases h2 : x < i
        · rw [if_pos h2, if_pos (by omega)]
        · rw [if_neg h2, if_neg (by omega)]
theorem payR_full {n : Nat} {q : Int} {k : Nat} {g : Int} (hk : k < n) (h : sumP g ((n : Int) - 1) (n - 1) = g) : payR n q k g (n - 1) = payT n q k g := by
  apply getD_ext (by rw [payR_len, payT_len])
  intro j hj
  rw [payR_len] at hj
  rw [payR_at n q k g hk _ (Nat.le_refl _) j hj, payT_at _ _ _ _ _ hj, h]
  by_cases e : j = k
  · rw [if_pos e, if_pos e]
  · obtain ⟨x, hx⟩ : ∃ x, x = (if j < k then j else j - 1) := ⟨_, rfl⟩
    have hlt : x < n - 1 := by
      rw [hx]
      by_cases h2 : j < k
      · rw [if_pos h2]; omega
      · rw [if_neg h2]; omega
    rw [if_neg e, if_neg e, ← hx, if_pos hlt]
theorem payR_none {n : Nat} {q : Int} {k : Nat} (hk : k < n) : payR n q k 0 0 = payT n q k 0 := by
  apply getD_ext (by rw [payR_len, payT_len])
  intro j hj
  rw [payR_len] at hj
  rw [payR_at n q k 0 hk _ (by omega) j hj, payT_at _ _ _ _ _ hj]
  by_cases e : j = k
  · rw [if_pos e, if_pos e]; simp [sumP]
  · rw [if_neg e, if_neg e, if_neg (Nat.not_lt_zero _)]; simp [prt]
/-- the gift: the winner's bid, if there is one, and if there are others -/
def gift (l : List Int) (k : Nat) : Int := if l.length = 1 then 0 else max 0 (l.getD k 0)
def payB (l : List Int) (p : Int) (m : List Int) : List Int := if 0 ≤ wnr l p m then payT l.length ((l.length : Int) * p) (wnr l p m).toNat (gift l (wnr l p m).toNat) else []
theorem payB_yes {l : List Int} {p : Int} {m : List Int} {k : Nat} (h : wnr l p m = (k : Int)) : payB l p m = payT l.length ((l.length : Int) * p) k (gift l k) := by
  unfold payB; rw [h, if_pos (by omega), Int.toNat_natCast]
theorem payB_no {l : List Int} {p : Int} {m : List Int} (h : wnr l p m < 0) : payB l p m = [] := if_neg (by omega)
theorem payB_len (l : List Int) (p : Int) (m : List Int) : (payB l p m).length ≤ l.length := by
  unfold payB; split
  · rw [payT_len]; exact Nat.le_refl _
  · simp
theorem wnr_ok {l : List Int} {p : Int} {m : List Int} (h : 0 ≤ wnr l p m) : wok l p m := by
  by_cases hw : wok l p m
  · exact hw
  · rw [wnr_no hw] at h; omega
theorem wnr_lt (l : List Int) (p : Int) (m : List Int) : -1 ≤ wnr l p m ∧ (0 ≤ wnr l p m → wnr l p m < l.length) := by
  unfold wnr; split
  · have := win_bd l (inD m) l.length; omega
  · omega
theorem gift_bd {l : List Int} {p : Int} {k : Nat} (h : bok l p) (hk : k < l.length) : 0 ≤ gift l k ∧ gift l k ≤ (l.length : Int) * p ∧ gift l k ≤ 120000 := by
  have h1 := h.2 _ (getD_mem hk)
  have h2 := pot_bd h.1
  unfold gift; split <;> omega
theorem full_cast (n : Nat) : fullI n = ((2 ^ n - 1 : Nat) : Int) := by
  have := Nat.two_pow_pos n
  rw [Int.ofNat_sub (by omega), pow_cast]; rfl
theorem mns_cast {s k : Nat} (h : 2 ^ k ≤ s) : (s : Int) - (2 : Int) ^ k = ((mns s k : Nat) : Int) := by unfold mns; rw [Int.ofNat_sub h, pow_cast]
theorem arr_start {w W1 : World} {g : Nat} {L : List Int} (A : Arr W1 g L) (E : Ext w W1) : Arr W1.drew g L ∧ Ext w W1.drew ∧ Ext W1 W1.drew := ⟨A.drew, E.drew, (Ext.refl _).drew⟩
theorem arr_next {w W1 w' w2 : World} {g : Nat} {L : List Int} (h : Arr w' g L ∧ Ext w w' ∧ Ext W1 w') (e : Ext w' w2) : Arr w2 g L ∧ Ext w w2 ∧ Ext W1 w2 := ⟨h.1.keep e, h.2.1.trans e, h.2.2.trans e⟩

theorem parts {l : List Int} {p : Int} {k d : Nat} (h : bok l p) (hk : k < l.length) (hd : d + 1 = l.length) : ∃ P : List Int, Hid (∀ w, Calls Try.prog 84 #[.int .i64 (l.getD k 0), .int .i64 d] w (RetList P w)) ∧ P.length ≤ d ∧ Hid (∀ i, i < P.length → P.getD i 0 = prt (gift l k) ((l.length : Int) - 1) i) ∧ Hid (∀ q, payR l.length q k (gift l k) P.length = payT l.length q k (gift l k)) := by
  have hl := h.1.1
  have hx := h.2 _ (getD_mem hk)
  have hb := pot_bd h.1
  by_cases hs : VA (l.getD k 0) ∧ (1 : Int) ≤ (d : Int) ∧ (d : Int) ≤ 12
  · obtain ⟨h1, h2, h3⟩ := hs
    have hg : gift l k = l.getD k 0 := by unfold gift; rw [if_neg (by omega)]; have := h1.1; omega
    refine ⟨splitL (l.getD k 0) d d, ?_, by rw [splitL_len]; exact Nat.le_refl _, ?_, ?_⟩
    · have := fun w => implSplitLoop (l.getD k 0) d w h1 h2 h3
      simp only [Int.toNat_natCast] at this
      exact this
    · intro i hi
      rw [splitL_len] at hi
      rw [splitL_prt _ _ _ _ hi, hg, show (l.length : Int) - 1 = (d : Int) by omega]
    · intro q
      rw [splitL_len, show d = l.length - 1 by omega]
      refine payR_full hk ?_
      have := sumP_full (g := gift l k) (d := (l.length : Int) - 1) (by omega)
      rwa [show ((l.length : Int) - 1).toNat = l.length - 1 by omega] at this
  · have hg : gift l k = 0 := by
      unfold gift
      by_cases h1 : l.length = 1
      · rw [if_pos h1]
      · rw [if_neg h1]
        have : ¬ VA (l.getD k 0) := fun hv => hs ⟨hv, by omega, by omega⟩
        unfold VA at this; omega
    refine ⟨[], fun w => implSplitEven_no _ _ w hs, Nat.zero_le _, (show ∀ i, i < _ → _ from fun i hi => by simp at hi), fun q => ?_⟩
    rw [hg]; exact payR_none hk
set_option maxRecDepth 100000 in
set_option maxHeartbeats 400000 in
theorem implPayouts (sa : Option Addr) (cap : Nat) (l : List Int) (p : Int) (sm : Option Addr) (cm : Nat) (m : List Int) (w : World) (h : Lst w sa l) (hl : l.length ≤ 2000000) (hcap : l.length ≤ cap) (hm : Lst w sm m) (hml : m.length ≤ 2000000) (hmc : m.length ≤ cm) :
    Calls Try.prog 58 #[.slice sa l.length cap, .int .i64 p, .slice sm m.length cm] w (RetList (payB l p m) w) := by
  have H := hide h; clear h
  have HM := hide hm; clear hm
  have hlt := wnr_lt l p m
  have HW := hide (implWinner sa cap l p sm cm m w H.out hl hcap HM.out hml hmc)
  by_cases hw : 0 ≤ wnr l p m
  · obtain ⟨hok, hvm⟩ := wnr_ok hw
    clear hvm
    obtain ⟨k, hk⟩ := Int.eq_ofNat_of_zero_le hw
    have hkl : k < l.length := by have := hlt.2 hw; omega
    have HF := hide (payB_yes hk)
    rw [hk] at HW
    clear hlt hw hk
    have hb := pot_bd hok.1
    have hpo := pot_yes hok.1
    have hl12 := hok.1.1
    have hx := hok.2 _ (getD_mem hkl)
    obtain ⟨hg0, hg1, hg2⟩ := gift_bd hok hkl
    obtain ⟨P, HS, hP, HPR, HPF⟩ := parts (d := l.length - 1) hok hkl (by omega)
    have HPF2 := hide (HPF.out ((l.length : Int) * p))
    have hmk := run_makeInts l.length hl
    have cv0 := (Arr.new w (zeros l.length)).cell (j := k) (by rw [zeros_len]; exact hkl)
    have fv0 := (Arr.new w (zeros l.length)).free k
    obtain ⟨g0, off, rfl, hg, c1⟩ := H.out.at hkl
    have hm2 : 2 ^ k ≤ 2 ^ l.length - 1 := Nat.ge_two_pow_of_testBit (full_bit hkl)
    have hp12 := pow12 (n := l.length) (by omega)
    have hs1 : mns (2 ^ l.length - 1) k ≤ 4096 := Nat.le_trans (Nat.sub_le _ _) (Nat.le_trans (Nat.sub_le _ _) hp12)
    obtain ⟨O, HO, HOl, HOa⟩ : ∃ O : List Int, Hid (∀ w, Calls Try.prog 83 #[.int .i64 (mns (2 ^ l.length - 1) k : Nat)] w (RetList O w)) ∧ Hid (O.length = l.length - 1) ∧ Hid (∀ i, i < l.length - 1 → O.getD i 0 = ob k i) := by
      have e := mems_but (n := l.length) (by omega) hkl
      refine ⟨_, fun w => implListOf _ w (by omega), ?_, ?_⟩
      · rw [e]; exact but_len hkl
      · rw [e]; exact fun i hi => but_at hkl hi
    have hfs := full_cast l.length
    have hmc2 := mns_cast hm2
    have hp2 := pow_bd (m := k) (by omega)
    have hf2 : 0 ≤ fullI l.length ∧ fullI l.length ≤ 4096 := by rw [hfs]; omega
    have hwr : IntKind.i64.wrap (fullI l.length - (2 : Int) ^ k) = ((mns (2 ^ l.length - 1) k : Nat) : Int) := by
      rw [hfs, hmc2]; exact IntWalk.i64_in _ (by omega)
    obtain ⟨S, hS⟩ : ∃ S, S = mns (2 ^ l.length - 1) k := ⟨_, rfl⟩; rw [← hS] at HO hwr hmc2 hs1
    clear hS
    clear hok hfs hmc2 hm2 HPF hp12
    have HWR := hide hwr; clear hwr
    have HPO := hide hpo; clear hpo
    go_enter Try.func58, Try.ntmps58
    have HS1 := hide hs1; clear hs1
    have HP2 := hide hp2; clear hp2
    have HF2 := hide hf2; clear hf2
    have HA0 := hide (Arr.new w (zeros l.length))
    have HE0 := hide ((Ext.refl w).alloc (.cells (ints (zeros l.length)) 3))
    clear cv0 fv0
    go_wp2_with fail; refine (HW.out).mono ?_; rintro e w' ⟨rfl, rfl⟩
    go_wp2_with fail
    refine (implPot _ _ _).mono ?_
    rintro e w' ⟨rfl, rfl⟩
    rw [HPO.out]
    clear HPO hmk
    obtain ⟨q, hq⟩ : ∃ q, q = (l.length : Int) * p := ⟨_, rfl⟩; rw [← hq] at hb hx hg1 HF HPF2 ⊢
    have HQ := hide hq; clear hq
    obtain ⟨W0, hW0⟩ : ∃ W0, W0 = w.alloc (.cells (ints (zeros l.length)) 3) := ⟨_, rfl⟩; rw [← hW0] at HA0 HE0 ⊢
    clear hW0
    have cv0 := HA0.out.cell (j := k) (by rw [zeros_len]; exact hkl)
    rw [zeros_at] at cv0
    have fv0 := HA0.out.free k
    have A1 := HA0.out.set k q
    have E1 := HE0.out.setCell (Nat.le_refl w.heap.size) (o := k) (.int .i64 q)
    clear HA0 HE0
    go_wp2
    obtain ⟨W1, hW1⟩ : ∃ W1, W1 = W0.setCell ⟨w.heap.size, k, none⟩ (.int .i64 q) := ⟨_, rfl⟩; rw [← hW1] at A1 E1 ⊢
    clear hW1 cv0 fv0
    have HL0 := hide (show (zeros l.length).set k q = payR l.length q k (gift l k) 0 from rfl)
    obtain ⟨L0, hL0⟩ : ∃ L0, L0 = (zeros l.length).set k q := ⟨_, rfl⟩; rw [← hL0] at A1 HL0
    clear hL0
    have hwr := HWR.out
    have hf2 := HF2.out
    have hp2 := HP2.out
    have hw2 : IntKind.i64.wrap ((2 : Int) ^ k) = (2 : Int) ^ k := IntWalk.i64_in _ (by omega)
    have HFU := hide (fun w => implFullSet l.length w (by omega))
    obtain ⟨F, hF⟩ : ∃ F, F = fullI l.length := ⟨_, rfl⟩; rw [← hF] at hwr hf2 HFU
    clear hF HWR HF2 HP2
    have HK := hide (show ∀ w', Ext W1 w' → True ∧ True from fun _ _ => ⟨trivial, trivial⟩)
    -- REGION6
    refine wp_region_held_drew (S := (fun _ => True ∧ True)) (by kernel_rfl) (by first | exact HK.out _ ((Ext.refl W1).drew)) (fun hHeld => ?_)
    refine wpAnyH_take (i := 0) (oi := _) (v := ?_) rfl (by kernel_rfl) (by kernel_rfl) (by kernel_rfl) (fun _ _ _ h => h) (Or.inl ⟨by rfl, ?_⟩) (by assumption) ?_
    rotate_left
    · (intro w hSw; (try dsimp only at hSw); (try obtain ⟨hS0, hS1⟩ := hSw); go_simp; (try with_reducible rfl))
    (try simp only [List.getElem_toArray, List.getElem_cons_zero, Act.put, List.setIfInBounds_toArray, List.set_cons_zero, List.set_cons_succ])
    refine wpAnyH_take (i := 1) (oi := _) (v := ?_) rfl (by kernel_rfl) (by kernel_rfl) (by kernel_rfl) (fun _ _ _ h => h) (Or.inl ⟨by rfl, ?_⟩) (by assumption) ?_
    rotate_left
    · (intro w hSw; (try dsimp only at hSw); (try obtain ⟨hS0, hS1⟩ := hSw); go_simp; (try with_reducible rfl))
    (try simp only [List.getElem_toArray, List.getElem_cons_succ, List.getElem_cons_zero, Act.put, List.setIfInBounds_toArray, List.set_cons_zero, List.set_cons_succ])
    refine wpAnyH_take (i := 3) (oi := _) (v := ?_) rfl (by kernel_rfl) (by kernel_rfl) (by kernel_rfl) (fun _ _ _ h => h) (Or.inl ⟨by rfl, ?_⟩) (by assumption) ?_
    rotate_left
    · (intro w hSw; (try dsimp only at hSw); (try obtain ⟨hS0, hS1⟩ := hSw); go_simp; (try with_reducible rfl))
    (try simp only [List.getElem_toArray, List.getElem_cons_succ, List.getElem_cons_zero, Act.put, List.setIfInBounds_toArray, List.set_cons_zero, List.set_cons_succ])
    refine wpAnyH_take (i := 4) (oi := _) (v := ?_) rfl (by kernel_rfl) (by kernel_rfl) (by kernel_rfl) (fun _ _ _ h => h) (Or.inl ⟨by rfl, ?_⟩) (by assumption) ?_
    rotate_left
    · (intro w hSw; (try dsimp only at hSw); (try obtain ⟨hS0, hS1⟩ := hSw); go_simp; (try with_reducible rfl))
    (try simp only [List.getElem_toArray, List.getElem_cons_succ, List.getElem_cons_zero, Act.put, List.setIfInBounds_toArray, List.set_cons_zero, List.set_cons_succ])
    refine wpAnyH_ready (rs := [2]) (by kernel_rfl) (by simp) ?_
    refine AllReadyH.cons (o := _) rfl (fun K hK => ?_) AllReadyH.nil
    go_simp
    refine (HFU.out _).mono ?_; rintro e w' ⟨rfl, rfl⟩
    refine hK.out _ _ (HK.out _ ((Ext.refl W1).drew)) (fun hHeld => ?_); clear hK K
    (try simp only [List.getElem_toArray, List.getElem_cons_succ, List.getElem_cons_zero, Act.put, List.setIfInBounds_toArray, List.set_cons_zero, List.set_cons_succ])
    refine wpAnyH_take (i := 5) (oi := _) (v := ?_) rfl (by kernel_rfl) (by kernel_rfl) (by kernel_rfl) (fun _ _ _ h => h) (Or.inl ⟨by rfl, ?_⟩) (by assumption) ?_
    rotate_left
    · (intro w hSw; (try dsimp only at hSw); (try obtain ⟨hS0, hS1⟩ := hSw); go_simp; (try with_reducible rfl))
    (try simp only [List.getElem_toArray, List.getElem_cons_succ, List.getElem_cons_zero, Act.put, List.setIfInBounds_toArray, List.set_cons_zero, List.set_cons_succ])
    refine wpAnyH_ready (rs := [6]) (by kernel_rfl) (by simp) ?_
    refine AllReadyH.cons (o := _) rfl (fun K hK => ?_) AllReadyH.nil
    go_simp
    refine (HO.out _).mono ?_; rintro e w7 ⟨s7, c7, rfl, R7, hb7⟩
    refine hK.out _ _ (HK.out _ (((Ext.refl W1).drew).trans (Ext.of hb7))) (fun hHeld => ?_); clear hK K
    (try simp only [List.getElem_toArray, List.getElem_cons_succ, List.getElem_cons_zero, Act.put, List.setIfInBounds_toArray, List.set_cons_zero, List.set_cons_succ])
    refine wpAnyH_ready (rs := [7]) (by kernel_rfl) (by simp) ?_
    refine AllReadyH.cons (o := _) rfl (fun K hK => ?_) AllReadyH.nil
    go_simp
    refine hK.out _ _ (HK.out _ (((Ext.refl W1).drew).trans (Ext.of hb7))) (fun hHeld => ?_); clear hK K
    (try simp only [List.getElem_toArray, List.getElem_cons_succ, List.getElem_cons_zero, Act.put, List.setIfInBounds_toArray, List.set_cons_zero, List.set_cons_succ])
    refine wpAnyH_done (by kernel_rfl) ?_ _
    have E7 := ((Ext.refl W1).drew).trans (Ext.of hb7)
    -- END6
    clear hwr hw2 hp2 hf2 HFU HO HK
    have A7 := A1.keep E7
    have E17 := E1.trans E7
    have RO := R7.le (show w.heap.size + 1 ≤ W1.drew.heap.size by have := A1.lt; simp; omega)
    clear A1 R7 hb7
    have c1 := (E17.cell hg).trans c1
    have hOn : O.length = l.length - 1 := HOl.out
    rw [← hOn] at HS
    clear hOn
    obtain ⟨x, hx0⟩ : ∃ x, x = l.getD k 0 := ⟨_, rfl⟩; rw [← hx0] at c1 HS hx
    clear hx0
    go_wp2_with fail; refine (HS.out _).mono ?_; rintro e w8 ⟨s8, c8, rfl, R8, hb8⟩
    have E8 := Ext.of hb8
    have A8 := A7.keep E8
    have E18 := E17.trans E8
    have O8 := RO.ext E8
    have P8 := R8.le (show w.heap.size + 1 ≤ w7.heap.size by have := A7.lt; omega)
    clear A7 RO R8 hb8 E7 E8 E17 c1 HS E1
    rw [HL0.out] at A8
    have hPl : P.length ≤ 11 := by omega
    have HLn := hide (payR_len l.length q k (gift l k))
    have HAt := hide (payR_at l.length q k (gift l k) hkl)
    have HN : Hid (∀ i, payR l.length q k (gift l k) (i + 1) = ((payR l.length q k (gift l k) i).set (ob k i) (prt (gift l k) ((l.length : Int) - 1) i)).set k (q - sumP (gift l k) ((l.length : Int) - 1) (i + 1))) := hide (fun i => rfl)
    have HSB : Hid (2 ≤ l.length → ∀ i, i ≤ P.length → 0 ≤ sumP (gift l k) ((l.length : Int) - 1) i ∧ sumP (gift l k) ((l.length : Int) - 1) i ≤ gift l k) := hide (fun h2 i hi => sumP_bd hg0 (by omega) i (by omega))
    have HPB : Hid (2 ≤ l.length → ∀ i, 0 ≤ prt (gift l k) ((l.length : Int) - 1) i ∧ prt (gift l k) ((l.length : Int) - 1) i ≤ gift l k + 1) := hide (fun h2 i => prt_bd hg0 (by omega) i)
    have HSS : Hid (∀ i, sumP (gift l k) ((l.length : Int) - 1) (i + 1) = sumP (gift l k) ((l.length : Int) - 1) i + prt (gift l k) ((l.length : Int) - 1) i) := hide (fun i => rfl)
    have hz8 := A8.lt
    obtain ⟨g, hgg⟩ : ∃ g, g = gift l k := ⟨_, rfl⟩; rw [← hgg] at hg0 hg1 hg2 HPR HF HPF2 A8 HLn HAt HN HSB HPB HSS
    clear hgg hx
    go_wp2
    go_loopw [43] (fun u wr => ∃ i : Nat, i ≤ P.length ∧ u = .int .i64 i ∧ Arr wr w.heap.size (payR l.length q k g i) ∧ Ext w wr ∧ Mid w.heap.size (w.heap.size + 1) w8 wr) (fun u _ => P.length - (intOf u).toNat)
    case atStart => exact ⟨0, Nat.zero_le _, rfl, A8, E18, Mid.refl _ _ _⟩
    case round =>
      clear A8 E18
      obtain ⟨i, hi, rfl, hA, hE, hM⟩ := hrel
      by_cases hlt : i < P.length
      · have OR := hM.row O8 (Nat.le_refl _)
        have PR := hM.row P8 (Nat.le_refl _)
        have hiO : i < O.length := by rw [HOl.out]; omega
        obtain ⟨g1, off1, rfl, hg1, e1⟩ := OR.lst.at hiO
        obtain ⟨g2, off2, rfl, hg2', e2⟩ := PR.lst.at hlt
        have hob : ob k i < l.length := by unfold ob; split <;> omega
        have hobk : ob k i ≠ k := by unfold ob; split <;> omega
        have hpb := HPB.out (by omega) i
        have hsb := HSB.out (by omega) i hi
        have hck := hA.cell (j := k) (by rw [HLn.out]; exact hkl)
        have hcb := hA.cell (j := ob k i) (by rw [HLn.out]; exact hob)
        have hfk := hA.free k
        have hfb := hA.free (ob k i)
        rw [HAt.out i (by omega) k hkl, if_pos rfl] at hck
        rw [HOa.out i (by omega)] at e1
        rw [HPR.out i hlt] at e2
        have HN2 := hide (show payR l.length q k g (i + 1) = ((payR l.length q k g i).set (ob k i) (prt g ((l.length : Int) - 1) i)).set k (q - sumP g ((l.length : Int) - 1) i - prt g ((l.length : Int) - 1) i) by
          rw [HN.out, HSS.out]; congr 1; omega)
        obtain ⟨y, hy⟩ : ∃ y, y = (payR l.length q k g i).getD (ob k i) 0 := ⟨_, rfl⟩; rw [← hy] at hcb
        obtain ⟨z, hz⟩ : ∃ z, z = prt g ((l.length : Int) - 1) i := ⟨_, rfl⟩; rw [← hz] at e2 hpb HN2
        obtain ⟨v, hv⟩ : ∃ v, v = sumP g ((l.length : Int) - 1) i := ⟨_, rfl⟩; rw [← hv] at hck hsb HN2
        obtain ⟨b, hb⟩ : ∃ b, b = ob k i := ⟨_, rfl⟩; rw [← hb] at e1 hob hobk hcb hfb HN2
        clear hy hz hv hb OR PR
        go_wp2
        go_roundw
        case rel => exact ⟨i + 1, by omega, by go_num, by rw [HN2.out]; exact (hA.set b z).set k (q - v - z), (hE.setCell (Nat.le_refl _) _).setCell (Nat.le_refl _) _, (hM.poke (Nat.le_refl _) (Nat.lt_succ_self _) _ _).poke (Nat.le_refl _) (Nat.lt_succ_self _) _ _⟩
        case measure => simp [intOf]; omega
      · obtain rfl : i = P.length := by omega
        have hA2 := hA
        rw [HPF2.out, ← HF.out] at hA2
        have HL := hide (show (payB l p m).length = l.length by rw [HF.out, payT_len])
        clear hA
        go_wp2
        go_ret
        refine ⟨some ⟨w.heap.size, 0, none⟩, l.length, by rw [HL.out]; rfl, ?_, hE⟩
        have := hA2.row (base := w.heap.size) (Nat.le_refl _) (by rw [HL.out]; omega)
        rwa [HL.out] at this
  · have HF := hide (payB_no (l := l) (p := p) (m := m) (by omega))
    have hw2 : wnr l p m < 0 := by omega
    obtain ⟨x, hx⟩ : ∃ x, x = wnr l p m := ⟨_, rfl⟩; rw [← hx] at hlt hw hw2 HW
    clear hx hlt hw
    go_enter Try.func58, Try.ntmps58
    go_wp2_with fail; refine (HW.out).mono ?_; rintro e w' ⟨rfl, rfl⟩
    go_wp2
    go_ret
    exact RetList.of (base := 0) HF.out (Row.nil _ _) (Ext.refl _)
end Go.Proofs.Ythbkkbcbhhmhoab
