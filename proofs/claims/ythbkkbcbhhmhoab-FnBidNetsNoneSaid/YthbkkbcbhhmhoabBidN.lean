/- Chapter 3: net amounts by bids: plain numbers, contracts of the program and of the model. -/
import Derived.Test.YthbkkbcbhhmhoabBidO
import Derived.StillTailTactics
namespace Go.Proofs.Ythbkkbcbhhmhoab
open Go.ChangeShapes Go.WideShapes Go.ChangeAt Go.RowKit Go.Joins Go.Sort
set_option linter.unusedVariables false

/-- what a member gets in a round -/
def pyA (ll : List (List Int)) (p : Int) (c i : Nat) : Int := (payB (ll.getD c []) p (bo ll c)).getD i 0
def bnA (ll : List (List Int)) (p : Int) : Nat → Nat → Int
  | 0, _ => 0
  | c + 1, i => bnA ll p c i + (pyA ll p c i - p)
def bnP (ll : List (List Int)) (p : Int) (c k : Nat) : List Int := (List.range ll.length).map fun i => bnA ll p c i + if i < k then pyA ll p c i - p else 0
theorem bnP_len (ll : List (List Int)) (p : Int) (c k : Nat) : (bnP ll p c k).length = ll.length := by simp [bnP]
theorem bnP_at (ll : List (List Int)) (p : Int) (c k i : Nat) (h : i < ll.length) : (bnP ll p c k).getD i 0 = bnA ll p c i + if i < k then pyA ll p c i - p else 0 := by simp [bnP, List.getD_eq_getElem?_getD, h]
theorem bnP_start (ll : List (List Int)) (p : Int) : zeros ll.length = bnP ll p 0 0 := by
  apply getD_ext (by rw [zeros_len, bnP_len])
  intro j hj; rw [zeros_len] at hj
  rw [zeros_at, bnP_at _ _ _ _ _ hj, if_neg (Nat.not_lt_zero _)]; rfl
theorem bnP_next (ll : List (List Int)) (p : Int) (c : Nat) : bnP ll p c ll.length = bnP ll p (c + 1) 0 := by
  apply getD_ext (by rw [bnP_len, bnP_len])
  intro j hj; rw [bnP_len] at hj
  rw [bnP_at _ _ _ _ _ hj, bnP_at _ _ _ _ _ hj, if_pos hj, if_neg (Nat.not_lt_zero _), Int.add_zero]; rfl
theorem bnP_set (ll : List (List Int)) (p : Int) (c k : Nat) (hk : k < ll.length) : (bnP ll p c k).set k (bnA ll p c k + (pyA ll p c k - p)) = bnP ll p c (k + 1) := by
  apply getD_ext (by rw [List.length_set, bnP_len, bnP_len])
  intro j hj; rw [List.length_set, bnP_len] at hj
  rw [set_at _ _ _ _ (by rw [bnP_len]; exact hk), bnP_at _ _ _ _ _ hj, bnP_at _ _ _ _ _ hj]
  by_cases e : j = k
  · subst e; rw [if_pos rfl, if_pos (Nat.lt_succ_self _)]
  · rw [if_neg e]
    by_cases h : j < k
    · rw [if_pos h, if_pos (show j < k + 1 by omega)]
    · rw [if_neg h, if_neg (show ¬ j < k + 1 by omega)]
def bnL (ll : List (List Int)) (p : Int) : List Int := if tOk ll p then bnP ll p ll.length 0 else []
theorem bnL_yes {ll : List (List Int)} {p : Int} (h : tOk ll p) : bnL ll p = bnP ll p ll.length 0 := if_pos h
theorem bnL_no {ll : List (List Int)} {p : Int} (h : ¬ tOk ll p) : bnL ll p = [] := if_neg h
theorem bnL_len (ll : List (List Int)) (p : Int) : (bnL ll p).length ≤ ll.length := by
  unfold bnL; split
  · rw [bnP_len]; exact Nat.le_refl _
  · simp
/-- each round of a valid table has its winner -/
theorem rnd {ll : List (List Int)} {p : Int} (h : tOk ll p) {c : Nat} (hc : c < ll.length) : ∃ k : Nat, k < ll.length ∧ win (ll.getD c []) (inD (bo ll c)) ll.length = (k : Int) ∧ wnr (ll.getD c []) p (bo ll c) = (k : Int) ∧ (ll.getD c []).length = ll.length ∧ (payB (ll.getD c []) p (bo ll c)).length = ll.length := by
  have hr := h.2 c hc
  obtain ⟨h1, h2, h3⟩ := bo_win hc (fun i hi => h.2 i (by omega)) hr
  obtain ⟨k, hk⟩ := Int.eq_ofNat_of_zero_le h2
  refine ⟨k, by omega, hk, by rw [h1, hk], hr.1, ?_⟩
  rw [payB_yes (k := k) (by rw [h1, hk]), payT_len, hr.1]
theorem pyA_bd {ll : List (List Int)} {p : Int} (h : tOk ll p) {c : Nat} (hc : c < ll.length) {i : Nat} (hi : i < ll.length) : 0 ≤ pyA ll p c i ∧ pyA ll p c i ≤ 120001 := by
  obtain ⟨k, hk, _, hw, hl, _⟩ := rnd h hc
  have hb := (h.2 c hc).2
  obtain ⟨g0, g1, g2⟩ := gift_bd (l := ll.getD c []) (p := p) (k := k) hb (by omega)
  have hq := pot_bd hb.1
  unfold pyA
  rw [payB_yes hw, payT_at _ _ _ _ _ (by omega)]
  by_cases e : i = k
  · rw [if_pos e]; omega
  · rw [if_neg e]
    have := prt_bd (g := gift (ll.getD c []) k) (d := ((ll.getD c []).length : Int) - 1) g0 (by omega) (if i < k then i else i - 1)
    omega
theorem bnA_bd {ll : List (List Int)} {p : Int} (h : tOk ll p) {i : Nat} (hi : i < ll.length) : ∀ c, c ≤ ll.length → -10000 * (c : Int) ≤ bnA ll p c i ∧ bnA ll p c i ≤ 120001 * (c : Int) := by
  intro c
  have hp := (h.2 0 (by have := h.1; omega)).2.1.2
  induction c with
  | zero => intro _; simp [bnA]
  | succ c ih =>
    intro hc
    have h1 := ih (by omega)
    have h2 := pyA_bd h (show c < ll.length by omega) hi
    show _ ≤ bnA ll p c i + (pyA ll p c i - p) ∧ bnA ll p c i + (pyA ll p c i - p) ≤ _
    omega
theorem bo_take (ll : List (List Int)) : ∀ n c, c ≤ n → (bo ll n).take c = bo ll c := by
  intro n
  induction n with
  | zero => intro c hc; obtain rfl : c = 0 := by omega
            rfl
  | succ n ih =>
    intro c hc
    by_cases e : c = n + 1
    · rw [e, List.take_of_length_le (by rw [bo_len]; exact Nat.le_refl _)]
    · show (bo ll n ++ _).take c = _
      rw [List.take_append_of_le_length (by rw [bo_len]; omega)]
      exact ih c (by omega)

set_option maxRecDepth 100000 in
set_option maxHeartbeats 1000000 in
theorem implBN (sa : Option Addr) (cap : Nat) (ll : List (List Int)) (p : Int) (w : World) (h : Mst w sa ll) (hl : ll.length ≤ 2000000) (hr : ∀ i, i < ll.length → (ll.getD i []).length ≤ 2000000) :
    Calls Try.prog 27 #[.slice sa ll.length cap, .int .i64 p] w (RetList (bnL ll p) w) := by
  have H := hide h; clear h
  have HR := hide hr; clear hr
  have HBO := hide (implBO sa cap ll p w H.out hl HR.out)
  by_cases hok : tOk ll p
  · have h12 := hok.1
    have hp := (hok.2 0 (by have := hok.1; omega)).2.1.2
    have HF := hide (bnL_yes hok)
    have HRD := hide (fun c hc => @rnd ll p hok c hc)
    have HPB := hide (fun c hc i hi => @pyA_bd ll p hok c hc i hi)
    have HAB := hide (fun c hc i hi => @bnA_bd ll p hok i hi c hc)
    have HST := hide (bnP_start ll p)
    have HNX := hide (fun c => bnP_next ll p c)
    have HSE := hide (fun c k hk => bnP_set ll p c k hk)
    have HLN := hide (fun c k => bnP_len ll p c k)
    have HAT := hide (fun c k i hi => bnP_at ll p c k i hi)
    have HTK := hide (fun c hc => bo_take ll ll.length c hc)
    have HBL := hide (fun c => bo_len ll c)
    rw [boL_yes hok] at HBO
    have hO1 := bo_len ll ll.length
    obtain ⟨O, hO⟩ : ∃ O, O = bo ll ll.length := ⟨_, rfl⟩; rw [← hO] at HBO HTK hO1
    have hmk := run_makeInts ll.length (by omega)
    rw [← hO1] at hmk
    have hne : ((O.length : Int) == 0) = false := by rw [beq_eq_false_iff_ne]; omega
    have HO1 := hide hO1; clear hO1
    clear hok hO
    go_enter Try.func27, Try.ntmps27
    go_wp2_with fail; refine (HBO.out).mono ?_; rintro e w1 ⟨so, co, rfl, RO, hb1⟩
    have E1 := Ext.of hb1
    have LO := hide RO.lst
    have hco := RO.cap
    clear hb1 RO HBO
    have A0 : Arr (w1.alloc (.cells (ints (zeros O.length)) 3)) w1.heap.size (bnP ll p 0 0) := by
      have hz0 : zeros O.length = bnP ll p 0 0 := by rw [HO1.out, HST.out]
      have := Arr.new w1 (zeros O.length)
      unfold Arr at this ⊢
      rw [← hz0]; exact this
    have EE0 := (Ext.refl w1).alloc (.cells (ints (zeros O.length)) 3)
    go_wp2
    have HA0 := hide A0; clear A0
    go_loopw [22] (fun i wr => ∃ c : Nat, c ≤ ll.length ∧ i = .int .i64 c ∧ Hid (Arr wr w1.heap.size (bnP ll p c 0)) ∧ Ext w1 wr) (fun i _ => ll.length - (intOf i).toNat)
    case atStart => exact ⟨0, Nat.zero_le _, rfl, HA0.out, EE0⟩
    case round =>
      clear hmk HA0 EE0
      obtain ⟨c, hc, rfl, HA, hE⟩ := hrel
      by_cases hlt : c < ll.length
      · have hEw := E1.trans hE
        obtain ⟨g, off, si, ci, rfl, hg, c1, L1, hci⟩ := (H.out.ext hEw).at hlt
        have hn := HR.out c hlt
        obtain ⟨k0, hk0, _, _, hlr, hpl⟩ := HRD.out c hlt
        have LT := (LO.out.ext hE).take c
        rw [HTK.out c (by omega)] at LT
        have hcO : c ≤ co := by have := HO1.out; omega
        have hcL : c ≤ O.length := by have := HO1.out; omega
        have hcc : (c : Int) ≤ (co : Int) := by omega
        have HC := hide (implPayouts si ci (ll.getD c []) p so co (bo ll c) wr L1 hn hci LT (by rw [HBL.out]; omega) (by rw [HBL.out]; omega))
        rw [HBL.out c] at HC
        have HPA : Hid (∀ i, (payB (ll.getD c []) p (bo ll c)).getD i 0 = pyA ll p c i) := hide fun i => rfl
        obtain ⟨P, hP⟩ : ∃ P, P = payB (ll.getD c []) p (bo ll c) := ⟨_, rfl⟩; rw [← hP] at HC HPA hpl
        obtain ⟨x, hx⟩ : ∃ x, x = ll.getD c [] := ⟨_, rfl⟩; rw [← hx] at c1 L1 hn HC hci hlr
        clear hP hx LT hlr
        go_wp2_with fail
        refine (HC.out).mono ?_
        rintro e w8 ⟨s8, c8, rfl, R8, hb8⟩
        have E8 := Ext.of hb8
        have A8 := HA.out.keep E8
        have P8 := R8.le (show w1.heap.size + 1 ≤ wr.heap.size by have := HA.out.lt; omega)
        have E18 := hE.trans E8
        have hP12 : P.length ≤ 12 := by omega
        have HPL := hide hpl; clear hpl
        have HA8 := hide A8; clear A8
        clear R8 hb8 E8 HC HA hE hEw L1
        go_wp2
        go_loopw [34] (fun i wx => ∃ k : Nat, k ≤ ll.length ∧ i = .int .i64 k ∧ Hid (Arr wx w1.heap.size (bnP ll p c k)) ∧ Ext w1 wx ∧ Mid w1.heap.size (w1.heap.size + 1) w8 wx) (fun i _ => ll.length - (intOf i).toNat)
        case atStart => exact ⟨0, Nat.zero_le _, rfl, HA8, E18, Mid.refl _ _ _⟩
        case round =>
          clear HA8 E18
          obtain ⟨k, hk, rfl, HA2, hE2, hM⟩ := hrel
          have hPe := HPL.out
          by_cases hlk : k < ll.length
          · have hkP : k < P.length := by omega
            have hkO : k < O.length := by have := HO1.out; omega
            obtain ⟨g2, off2, rfl, hg2, e2⟩ := (hM.row P8 (Nat.le_refl _)).lst.at hkP
            rw [HPA.out k] at e2
            have cv := HA2.out.cell (j := k) (by rw [HLN.out]; exact hlk)
            rw [HAT.out c k k hlk, if_neg (Nat.lt_irrefl _), Int.add_zero] at cv
            have fv := HA2.out.free k
            have hb1 := HPB.out c hlt k hlk
            have hb2 := HAB.out c hc k hlk
            have HS2 := hide (HSE.out c k hlk)
            obtain ⟨y, hy⟩ : ∃ y, y = pyA ll p c k := ⟨_, rfl⟩; rw [← hy] at e2 hb1 HS2
            obtain ⟨z, hz⟩ : ∃ z, z = bnA ll p c k := ⟨_, rfl⟩; rw [← hz] at cv hb2 HS2
            have hz0 : -200000 ≤ z ∧ z ≤ 2000000 := by omega
            have HPe := hide hPe; clear hPe
            clear hy hz hb2
            go_wp2
            go_roundw
            case rel => exact ⟨k + 1, by omega, by go_num, (show Arr _ _ _ by rw [← HS2.out]; exact HA2.out.set k _), hE2.setCell (Nat.le_refl _) _, hM.poke (Nat.le_refl _) (Nat.lt_succ_self _) _ _⟩
            case measure => simp [intOf]; omega
          · obtain rfl : k = ll.length := by omega
            have hA3 := HA2.out
            rw [HNX.out] at hA3
            have HA3 := hide hA3; clear hA3
            have hkP : P.length ≤ ll.length := by omega
            have HPe := hide hPe; clear hPe
            go_wp2
            go_roundw
            case rel => exact ⟨c + 1, by omega, by go_num, HA3, hE2⟩
            case measure => simp [intOf]; omega
      · obtain rfl : c = ll.length := by omega
        have hA2 := HA.out
        rw [← HF.out] at hA2
        have HL := hide (show (bnL ll p).length = O.length by rw [HF.out, HLN.out, HO1.out])
        have hO12 : O.length ≤ 2000000 := by have := HO1.out; omega
        have hz1 := E1.size
        go_wp2
        go_ret
        refine ⟨some ⟨w1.heap.size, 0, none⟩, O.length, by rw [HL.out]; rfl, ?_, E1.trans hE⟩
        have := hA2.row (base := w.heap.size) hz1 (by rw [HL.out]; exact hO12)
        rwa [HL.out] at this
  · have HF := hide (bnL_no hok)
    rw [boL_no hok] at HBO
    clear hok
    go_enter Try.func27, Try.ntmps27
    go_wp2_with fail; refine (HBO.out).mono ?_; rintro e w1 ⟨so, co, rfl, RO, hb1⟩
    have E1 := Ext.of hb1
    clear hb1 RO HBO
    go_wp2
    go_ret
    exact RetList.of (base := 0) HF.out (Row.nil _ _) E1
set_option maxRecDepth 100000 in
set_option maxHeartbeats 1000000 in
theorem specBnL (sa : Option Addr) (cap n : Nat) (ll : List (List Int)) (p : Int) (w : World) (h : Mst w sa ll) (hn : ll.length = n) (hok : tOk ll p) :
    Calls Try.prog 57 #[.slice sa n cap, .int .i64 p] w (RetList (bnL ll p) w) := by
  subst hn
  have H := hide h; clear h
  have h12 := hok.1
  have hp := (hok.2 0 (by have := hok.1; omega)).2.1.2
  have HF := hide (bnL_yes hok)
  have HRD := hide (fun c hc => @rnd ll p hok c hc)
  have HRO := hide (fun c hc => (hok.2 c hc).2)
  have HPB := hide (fun c hc i hi => @pyA_bd ll p hok c hc i hi)
  have HAB := hide (fun c hc i hi => @bnA_bd ll p hok i hi c hc)
  have HST := hide (bnP_start ll p)
  have HNX := hide (fun c => bnP_next ll p c)
  have HSE := hide (fun c k hk => bnP_set ll p c k hk)
  have HLN := hide (fun c k => bnP_len ll p c k)
  have HAT := hide (fun c k i hi => bnP_at ll p c k i hi)
  have HBL := hide (fun c => bo_len ll c)
  have HBS : Hid (∀ c, bo ll (c + 1) = bo ll c ++ [win (ll.getD c []) (inD (bo ll c)) ll.length]) := hide fun c => rfl
  have hmk := run_makeInts ll.length (by omega)
  have A0 : Arr ((w.alloc (.cells (ints (zeros ll.length)) 3)).alloc (.cells #[] 3)) w.heap.size (bnP ll p 0 0) := by
    have := (Arr.new w (zeros ll.length)).keep ((Ext.refl _).alloc (.cells #[] 3))
    unfold Arr at this ⊢
    rw [← HST.out]; exact this
  have EE0 := ((Ext.refl w).alloc (.cells (ints (zeros ll.length)) 3)).alloc (.cells #[] 3)
  have RD0 := Row.madeAt (w.heap.size + 1) (w.heap.size + 1) (w.alloc (.cells (ints (zeros ll.length)) 3)) (by simp) (Nat.le_refl _)
  have HA0 := hide A0; clear A0
  clear hok
  go_enter Try.func57, Try.ntmps57
  go_wp2
  go_loopw [6, 7] (fun v i wr => ∃ (c : Nat) (s2 : Option Addr) (c2 : Nat) (o : List Int), c ≤ ll.length ∧ i = .int .i64 c ∧ v = .slice s2 o.length c2 ∧ Hid (o = bo ll c) ∧ Row (w.heap.size + 1) wr s2 c2 o ∧ Hid (Arr wr w.heap.size (bnP ll p c 0)) ∧ Ext w wr) (fun _ i _ => ll.length - (intOf i).toNat)
  case atStart => exact ⟨0, some ⟨w.heap.size + 1, 0, none⟩, 0, [], Nat.zero_le _, rfl, by simp, rfl, RD0, HA0, EE0⟩
  case round =>
    clear hmk HA0 EE0 RD0
    obtain ⟨c, s2, c2, o, hc, rfl, rfl, HO, hR, HA, hE⟩ := hrel
    by_cases hlt : c < ll.length
    · obtain ⟨g, off, si, ci, rfl, hg, c1w, L1w, hci⟩ := H.out.at hlt
      have c1 := (hE.cell hg).trans c1w
      have L1 := L1w.ext hE
      obtain ⟨k0, hk0, hwin, hwnr, hlr, hpl⟩ := HRD.out c hlt
      have hol : o.length = c := by rw [HO.out]; exact HBL.out c
      have ho12 : o.length ≤ 12 := by omega
      have hwin2 : win (ll.getD c []) (inD o) (ll.getD c []).length = (k0 : Int) := by rw [hlr, HO.out]; exact hwin
      have HC := hide (fun w2 (L : Lst w2 si (ll.getD c [])) (Lo : Lst w2 s2 o) => specPayL si ci ll.length (ll.getD c []) p s2 c2 o.length o k0 w2 L hlr Lo rfl (by omega) (HRO.out c hlt) hwin2)
      have hpe : payT (ll.getD c []).length (((ll.getD c []).length : Int) * p) k0 (gift (ll.getD c []) k0) = payB (ll.getD c []) p (bo ll c) := (payB_yes hwnr).symm
      rw [hpe] at HC
      have HWI := hide (fun w2 (L : Lst w2 si (ll.getD c [])) (Lo : Lst w2 s2 o) => specWin si ci ll.length (ll.getD c []) s2 c2 o.length o w2 L hlr (by omega) Lo rfl (by omega))
      have hwin3 : win (ll.getD c []) (inD o) ll.length = (k0 : Int) := by rw [HO.out]; exact hwin
      rw [hwin3] at HWI
      have HO2 := hide (show o ++ [(k0 : Int)] = bo ll (c + 1) by rw [HBS.out, HO.out, hwin])
      have HPA : Hid (∀ i, (payB (ll.getD c []) p (bo ll c)).getD i 0 = pyA ll p c i) := hide fun i => rfl
      obtain ⟨P, hP⟩ : ∃ P, P = payB (ll.getD c []) p (bo ll c) := ⟨_, rfl⟩; rw [← hP] at HC HPA hpl
      rw [hlr] at c1 c1w
      have HC1 := hide c1w
      clear c1w
      obtain ⟨x, hx⟩ : ∃ x, x = ll.getD c [] := ⟨_, rfl⟩; rw [← hx] at L1 L1w HC HWI
      have HX := hide L1
      have HXW := hide L1w
      clear hP hx hlr hwin hwnr hwin2 hwin3 hpe hol L1 L1w hci
      go_wp2_with fail
      refine (HC.out _ HX.out hR.lst).mono ?_
      rintro e w8 ⟨s8, c8, rfl, R8, hb8⟩
      have E8 := Ext.of hb8
      have A8 := HA.out.keep E8
      have P8 := R8.le (show w.heap.size + 1 ≤ wr.heap.size by have := HA.out.lt; omega)
      have E18 := hE.trans E8
      have hR8 := hR.ext E8
      have hP12 : P.length ≤ 12 := by omega
      have HPL := hide hpl; clear hpl
      have HA8 := hide A8; clear A8
      clear R8 hb8 HC HA hR c1
      go_wp2
      go_loopw [9] (fun i wx => ∃ k : Nat, k ≤ ll.length ∧ i = .int .i64 k ∧ Hid (Arr wx w.heap.size (bnP ll p c k)) ∧ Ext w wx ∧ Mid w.heap.size (w.heap.size + 1) w8 wx) (fun i _ => ll.length - (intOf i).toNat)
      case atStart => exact ⟨0, Nat.zero_le _, rfl, HA8, E18, Mid.refl _ _ _⟩
      case round =>
        clear HA8 E18
        obtain ⟨k, hk, rfl, HA2, hE2, hM⟩ := hrel
        have hPe := HPL.out
        by_cases hlk : k < ll.length
        · have hkP : k < P.length := by omega
          obtain ⟨g2, off2, rfl, hg2, e2⟩ := (hM.row P8 (Nat.le_refl _)).lst.at hkP
          rw [HPA.out k] at e2
          have cv := HA2.out.cell (j := k) (by rw [HLN.out]; exact hlk)
          rw [HAT.out c k k hlk, if_neg (Nat.lt_irrefl _), Int.add_zero] at cv
          have fv := HA2.out.free k
          have hb1 := HPB.out c hlt k hlk
          have hb2 := HAB.out c hc k hlk
          have HS2 := HSE.out c k hlk
          obtain ⟨y, hy⟩ : ∃ y, y = pyA ll p c k := ⟨_, rfl⟩; rw [← hy] at e2 hb1 HS2
          obtain ⟨z, hz⟩ : ∃ z, z = bnA ll p c k := ⟨_, rfl⟩; rw [← hz] at cv hb2 HS2
          have hz0 : -200000 ≤ z ∧ z ≤ 2000000 := by omega
          have HS3 := hide (show (bnP ll p c k).set k (z + y - p) = bnP ll p c (k + 1) by rw [← HS2]; congr 1; omega)
          have hm1 : IntKind.i64.wrap (z + y) = z + y := IntWalk.i64_in _ (by omega)
          have hm2 : IntKind.i64.wrap (z + y - p) = z + y - p := IntWalk.i64_in _ (by omega)
          have HPe := hide hPe; clear hPe
          clear hy hz hb2 HS2
          go_wp2
          refine wp_region_still_tail 14 (by kernel_rfl) (by kernel_rfl) ?_
          simp only [List.take_succ_cons, List.take_zero, List.drop_succ_cons, List.drop_zero]
          repeat still_step
          refine wpStill_nil ?_
          clear hm1 hm2
          change wpList _ _ _ _ _ (World.drew _)
          go_wp2
          go_roundw
          case rel => exact ⟨k + 1, by omega, by go_num, (show Arr _ _ _ by rw [← HS3.out]; exact (HA2.out.set k _).drew), (hE2.setCell (Nat.le_refl _) _).drew, (hM.poke (Nat.le_refl _) (Nat.lt_succ_self _) _ _).trans (Mid.of_ext (Ext.refl _).drew)⟩
          case measure => simp [intOf]; omega
        · obtain rfl : k = ll.length := by omega
          have hA3 := HA2.out
          rw [HNX.out] at hA3
          have hR9 := hM.row hR8 (Nat.le_refl _)
          have c2x := (hE2.cell hg).trans HC1.out
          have HW2 := hide (HWI.out _ (HXW.out.ext hE2) hR9.lst)
          have HA3 := hide hA3; clear hA3
          have HPe := hide hPe; clear hPe
          have hzw := HA3.out.lt
          go_wp2_with fail
          refine (HW2.out).mono ?_
          rintro e w10 ⟨rfl, E10⟩
          have hE10 := hE2.trans E10
          have hz10 := hE10.size
          have hz11 := E10.size
          go_wp2_with (first | (at_builtin; refine append_int rfl (.tmp 47) (.tmp 54) rfl (w.heap.size + 1) w10 s2 c2 o (k0 : Int) _ rfl rfl (hR9.ext E10) (by omega) (by omega) ?_; intro g3 cap3 w3 R3 hb3))
          have E3 := hE10.below hb3 (by omega)
          have HA4 := hide (show Arr w3 w.heap.size (bnP ll p (c + 1) 0) from Box.below (HA3.out.keep E10) hb3 (Nat.lt_succ_self _))
          clear hb3
          go_wp2
          go_roundw
          case rel => exact ⟨c + 1, _, _, _, by omega, by go_num, by rw [len_snocW o (k0 : Int)], HO2, R3, HA4, E3⟩
          case measure => simp [intOf]; omega
    · obtain rfl : c = ll.length := by omega
      have hA2 := HA.out
      rw [← HF.out] at hA2
      have HL := hide (show (bnL ll p).length = ll.length by rw [HF.out, HLN.out])
      go_wp2
      go_ret
      refine ⟨some ⟨w.heap.size, 0, none⟩, ll.length, by rw [HL.out]; rfl, ?_, hE⟩
      have := hA2.row (base := w.heap.size) (Nat.le_refl _) (by rw [HL.out]; omega)
      rwa [HL.out] at this
set_option maxHeartbeats 400000 in
theorem specBN (sa : Option Addr) (cap : Nat) (ll : List (List Int)) (p : Int) (w : World) (h : Mst w sa ll) (hl : ll.length ≤ 2000000) (hr : ∀ i, i < ll.length → (ll.getD i []).length ≤ 2000000) :
    Calls Try.prog 26 #[.slice sa ll.length cap, .int .i64 p] w (RetList (bnL ll p) w) := by
  have H := hide h; clear h
  have HR := hide hr; clear hr
  by_cases hok : tOk ll p
  · have HC := hide (fun w1 e => specBnL sa cap ll.length ll p w1 (H.out.ext e) rfl hok)
    have hb : tOkB ll p = true := decide_eq_true hok
    clear hok
    go_enter Try.func26, Try.ntmps26
    go_wp2_with fail; refine (Ret.eqB (specTab _ _ _ _ _ H.out hl HR.out) hb).mono ?_; rintro e w1 ⟨rfl, E1⟩
    go_wp2_with fail; refine (HC.out _ E1).mono ?_; rintro e w2 ⟨s2, c2, rfl, R2, hb2⟩
    have E := E1.trans (Ext.of hb2)
    have hz := E1.size
    clear hb2
    go_wp2
    go_ret
    exact ⟨s2, c2, rfl, R2.le hz, E⟩
  · have HF := hide (bnL_no hok)
    have hb : tOkB ll p = false := decide_eq_false hok
    clear hok
    go_enter Try.func26, Try.ntmps26
    go_wp2_with fail; refine (Ret.eqB (specTab _ _ _ _ _ H.out hl HR.out) hb).mono ?_; rintro e w1 ⟨rfl, E1⟩
    go_wp2
    go_ret
    exact RetList.of (base := 0) HF.out (Row.nil _ _) E1
end Go.Proofs.Ythbkkbcbhhmhoab
