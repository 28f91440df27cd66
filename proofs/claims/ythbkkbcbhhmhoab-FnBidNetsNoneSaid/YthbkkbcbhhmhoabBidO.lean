/- Chapter 3: the order by bids: plain numbers, contracts of the program and of the model. -/
import Derived.Test.YthbkkbcbhhmhoabRanks1
import Derived.Test.YthbkkbcbhhmhoabBid3
namespace Go.Proofs.Ythbkkbcbhhmhoab
open Go.ChangeShapes Go.WideShapes Go.ChangeAt Go.RowKit Go.Joins Go.Sort
set_option linter.unusedVariables false


theorem len_snocW (o : List Int) (x : Int) : o.length + 1 = (o ++ [x]).length := by simp
def bo (ll : List (List Int)) : Nat → List Int
  | 0 => []
  | c + 1 => bo ll c ++ [win (ll.getD c []) (inD (bo ll c)) ll.length]
theorem bo_len (ll : List (List Int)) (c : Nat) : (bo ll c).length = c := by
  induction c with
  | zero => rfl
  | succ c ih => show (bo ll c ++ _).length = _; rw [List.length_append, ih]; rfl
/-- a row of the table is valid -/
def rwOk (ll : List (List Int)) (p : Int) (i : Nat) : Prop := (ll.getD i []).length = ll.length ∧ bok (ll.getD i []) p
instance (ll : List (List Int)) (p : Int) (i : Nat) : Decidable (rwOk ll p i) := by unfold rwOk; infer_instance
def tOk (ll : List (List Int)) (p : Int) : Prop := (1 ≤ ll.length ∧ ll.length ≤ 12) ∧ ∀ i, i < ll.length → rwOk ll p i
instance (ll : List (List Int)) (p : Int) : Decidable (tOk ll p) := by unfold tOk; infer_instance
def tOkB (ll : List (List Int)) (p : Int) : Bool := decide (tOk ll p)
def boL (ll : List (List Int)) (p : Int) : List Int := if tOk ll p then bo ll ll.length else []
theorem boL_yes {ll : List (List Int)} {p : Int} (h : tOk ll p) : boL ll p = bo ll ll.length := if_pos h
theorem boL_no {ll : List (List Int)} {p : Int} (h : ¬ tOk ll p) : boL ll p = [] := if_neg h
theorem boL_len (ll : List (List Int)) (p : Int) : (boL ll p).length ≤ ll.length := by
  unfold boL; split
  · rw [bo_len]; exact Nat.le_refl _
  · simp
/-- while the rows are valid each round has its winner -/
theorem bo_vm {ll : List (List Int)} {p : Int} : ∀ c, c ≤ ll.length → (∀ i, i < c → rwOk ll p i) → vmB (bo ll c) ll.length = true := by
  intro c
  induction c with
  | zero => intro _ _; exact vmB_iff.2 (by simp [bo])
  | succ c ih =>
    intro hc h
    have h1 := ih (by omega) (fun i hi => h i (by omega))
    obtain ⟨h2, h3⟩ := vmB_iff.1 h1
    have hlen := (h c (by omega)).1
    have hv : vmB (bo ll c) (ll.getD c []).length = true := by rw [hlen]; exact h1
    have hw : ¬ win (ll.getD c []) (inD (bo ll c)) (ll.getD c []).length < 0 := fun hn => by
      have := (win_done hv).1 hn
      rw [bo_len, hlen] at this; omega
    rw [hlen] at hw
    obtain ⟨k, hk⟩ := Int.eq_ofNat_of_zero_le (show 0 ≤ win (ll.getD c []) (inD (bo ll c)) ll.length by omega)
    have hwb := win_bd (ll.getD c []) (inD (bo ll c)) ll.length
    have hnd : inD (bo ll c) k = false := by
      have hd : ∀ n k : Nat, win (ll.getD c []) (inD (bo ll c)) n = (k : Int) → inD (bo ll c) k = false := by
        intro n
        induction n with
        | zero => intro k h; simp [win] at h
        | succ n ihn =>
          intro k h
          by_cases hh : inD (bo ll c) n = false ∧ (win (ll.getD c []) (inD (bo ll c)) n < 0 ∨ (ll.getD c []).getD (win (ll.getD c []) (inD (bo ll c)) n).toNat 0 < (ll.getD c []).getD n 0)
          · rw [win_yes hh.1 hh.2] at h
            obtain rfl : n = k := by omega
            exact hh.1
          · rw [win_no hh] at h; exact ihn k h
      exact hd _ _ hk
    have hnm : (k : Int) ∉ bo ll c := of_decide_eq_false hnd
    show vmB (bo ll c ++ [win (ll.getD c []) (inD (bo ll c)) ll.length]) ll.length = true
    rw [hk]
    refine vmB_iff.2 ⟨fun x hx => ?_, ?_⟩
    · rw [List.mem_append, List.mem_singleton] at hx
      rcases hx with hx | rfl
      · exact h2 x hx
      · omega
    · rw [List.nodup_append]
      refine ⟨h3, by simp, fun x hx y hy => ?_⟩
      rw [List.mem_singleton] at hy; subst hy
      intro e; subst e; exact hnm hx
theorem bo_win {ll : List (List Int)} {p : Int} {c : Nat} (hc : c < ll.length) (h : ∀ i, i < c → rwOk ll p i) (hr : rwOk ll p c) :
    wnr (ll.getD c []) p (bo ll c) = win (ll.getD c []) (inD (bo ll c)) ll.length ∧ 0 ≤ win (ll.getD c []) (inD (bo ll c)) ll.length ∧ win (ll.getD c []) (inD (bo ll c)) ll.length < ll.length := by
  have hv := bo_vm c (by omega) h
  have hv2 : vmB (bo ll c) (ll.getD c []).length = true := by rw [hr.1]; exact hv
  have hw := wnr_yes (l := ll.getD c []) (p := p) (m := bo ll c) ⟨hr.2, hv2⟩
  rw [hr.1] at hw
  have hn : ¬ win (ll.getD c []) (inD (bo ll c)) (ll.getD c []).length < 0 := fun hn => by
    have := (win_done hv2).1 hn
    rw [bo_len, hr.1] at this; omega
  rw [hr.1] at hn
  exact ⟨hw, by omega, (win_bd _ _ _).2⟩

set_option maxHeartbeats 400000 in
theorem implBO (sa : Option Addr) (cap : Nat) (ll : List (List Int)) (p : Int) (w : World) (h : Mst w sa ll) (hl : ll.length ≤ 2000000) (hr : ∀ i, i < ll.length → (ll.getD i []).length ≤ 2000000) :
    Calls Try.prog 20 #[.slice sa ll.length cap, .int .i64 p] w (RetList (boL ll p) w) := by
  have H := hide h; clear h
  have HR := hide hr; clear hr
  have HBN := hide (fun c => bo_len ll c)
  have HW := hide (fun c hc h hr => @bo_win ll p c hc h hr)
  have HNo := hide (fun h => @boL_no ll p h)
  have HYes := hide (fun h => @boL_yes ll p h)
  have HS : Hid (∀ c, bo ll (c + 1) = bo ll c ++ [win (ll.getD c []) (inD (bo ll c)) ll.length]) := hide fun c => rfl
  go_enter Try.func20, Try.ntmps20
  go_wp2
  go_loopw [5, 11] (fun v i wr => ∃ (c : Nat) (s2 : Option Addr) (c2 : Nat) (o : List Int), c ≤ ll.length ∧ i = .int .i64 c ∧ v = .slice s2 o.length c2 ∧ Hid (o = bo ll c) ∧ o.length ≤ 12 ∧ Hid (∀ i, i < c → rwOk ll p i) ∧ Row w.heap.size wr s2 c2 o ∧ Ext w wr) (fun _ i _ => ll.length - (intOf i).toNat)
  case atStart => exact ⟨0, none, 0, [], Nat.zero_le _, rfl, rfl, rfl, by simp, (show ∀ i, i < 0 → _ from fun i hi => absurd hi (Nat.not_lt_zero _)), Row.nil _ _, Ext.refl _⟩
  case round =>
    obtain ⟨c, s2, c2, o, hc, rfl, rfl, HO, ho, HP, hR, hE⟩ := hrel
    by_cases hlt : c < ll.length
    · obtain ⟨g, off, si, ci, rfl, hg, c1, L1, hci⟩ := (H.out.ext hE).at hlt
      have hn := HR.out c hlt
      have hcc := hR.cap
      have HWI := hide (implWinner si ci (ll.getD c []) p s2 c2 o wr L1 hn hci hR.lst (by omega) hcc)
      by_cases hok : rwOk ll p c
      · obtain ⟨w1, w2, w3⟩ := HW.out c hlt HP.out hok
        have hd : (((ll.getD c []).length : Int) != (ll.length : Int)) = false := by rw [hok.1]; simp
        have h12 : ll.length ≤ 12 := by have := hok.2.1.1.2; rw [hok.1] at this; omega
        have hol : o.length = c := by rw [HO.out]; exact HBN.out c
        have HP2 := hide (show ∀ i, i < c + 1 → rwOk ll p i from fun i hi => by
          by_cases e : i = c
          · rw [e]; exact hok
          · exact HP.out i (by omega))
        have HO2 := hide (show o ++ [win (ll.getD c []) (inD (bo ll c)) ll.length] = bo ll (c + 1) by rw [HS.out, HO.out])
        have ho2 : o.length + 1 ≤ 12 := by omega
        have w1' : wnr (ll.getD c []) p o = win (ll.getD c []) (inD (bo ll c)) ll.length := by rw [HO.out]; exact w1
        rw [w1'] at HWI
        obtain ⟨z, hz⟩ : ∃ z, z = win (ll.getD c []) (inD (bo ll c)) ll.length := ⟨_, rfl⟩; rw [← hz] at HWI w2 w3 HO2
        obtain ⟨x, hx⟩ : ∃ x, x = ll.getD c [] := ⟨_, rfl⟩; rw [← hx] at c1 L1 hn hd HWI hci
        clear hx hz hok w1 w1' hol
        go_wp2_with fail
        refine (HWI.out).mono ?_
        rintro e w' ⟨rfl, rfl⟩
        go_wp2_with (first | (at_builtin; refine append_int rfl (.tmp 28) (.tmp 30) rfl w.heap.size wr s2 c2 o z _ rfl rfl hR (by omega) hE.size ?_; intro g3 cap3 w3 R3 hb3))
        have E3 := Ext.of (Below.trans hE hb3)
        clear hb3
        go_wp2
        go_roundw
        case rel => exact ⟨c + 1, _, _, _, by omega, by go_num, by rw [len_snocW o z], HO2, by rw [List.length_append]; simp; omega, HP2, R3, E3⟩
        case measure => simp [intOf]; omega
      · have HF := hide (HNo.out fun h => hok (h.2 c hlt))
        by_cases hln : (ll.getD c []).length = ll.length
        · have hd : (((ll.getD c []).length : Int) != (ll.length : Int)) = false := by rw [hln]; simp
          have hneg : wnr (ll.getD c []) p o = -1 := wnr_no fun h => hok ⟨hln, h.1⟩
          rw [hneg] at HWI
          obtain ⟨x, hx⟩ : ∃ x, x = ll.getD c [] := ⟨_, rfl⟩; rw [← hx] at c1 L1 hn hd HWI hci
          clear hx hok hln hneg
          go_wp2_with fail
          refine (HWI.out).mono ?_
          rintro e w' ⟨rfl, rfl⟩
          go_wp2
          go_ret
          exact RetList.of (base := 0) HF.out (Row.nil _ _) hE
        · have hd : (((ll.getD c []).length : Int) != (ll.length : Int)) = true := by rw [bne_iff_ne]; omega
          obtain ⟨z, hz⟩ : ∃ z, z = wnr (ll.getD c []) p o := ⟨_, rfl⟩; rw [← hz] at HWI
          obtain ⟨x, hx⟩ : ∃ x, x = ll.getD c [] := ⟨_, rfl⟩; rw [← hx] at c1 L1 hn hd HWI hci
          clear hx hok hln hz
          go_wp2_with fail
          refine (HWI.out).mono ?_
          rintro e w' ⟨rfl, rfl⟩
          go_wp2
          go_ret
          exact RetList.of (base := 0) HF.out (Row.nil _ _) hE
    · obtain rfl : c = ll.length := by omega
      have HG := hide (show boL ll p = o by
        rw [HO.out]
        by_cases h1 : 1 ≤ ll.length
        · have h2 := HP.out 0 (by omega)
          have h3 := h2.2.1.1.2
          rw [h2.1] at h3
          exact HYes.out ⟨⟨h1, by omega⟩, HP.out⟩
        · rw [HNo.out fun h => h1 h.1.1, show ll.length = 0 by omega]; rfl)
      go_wp2
      go_ret
      exact ⟨s2, c2, by rw [HG.out]; rfl, by rw [HG.out]; exact hR, hE⟩
set_option maxHeartbeats 1000000 in
theorem specTab (sa : Option Addr) (cap : Nat) (ll : List (List Int)) (p : Int) (w : World) (h : Mst w sa ll) (hl : ll.length ≤ 2000000) (hr : ∀ i, i < ll.length → (ll.getD i []).length ≤ 2000000) :
    Calls Try.prog 54 #[.slice sa ll.length cap, .int .i64 p] w (Ret (.bool (tOkB ll p)) w) := by
  have H := hide h; clear h
  have HR := hide hr; clear hr
  have HNo : Hid (¬ tOk ll p → tOkB ll p = false) := hide fun h => decide_eq_false h
  have HYes : Hid (tOk ll p → tOkB ll p = true) := hide fun h => decide_eq_true h
  by_cases h1 : inr ll.length 1 12 = true
  · have h1' := inr_iff.1 h1
    go_enter Try.func54, Try.ntmps54
    go_wp2_with fail; refine (Same.eqB (specInr _ _ _ _) h1).mono ?_; rintro e w' ⟨rfl, rfl⟩
    go_wp2
    go_loopw [5] (fun i wr => ∃ c : Nat, c ≤ ll.length ∧ i = .int .i64 c ∧ Hid (∀ i, i < c → rwOk ll p i) ∧ Ext w wr) (fun i _ => ll.length - (intOf i).toNat)
    case atStart => exact ⟨0, Nat.zero_le _, rfl, (show ∀ i, i < 0 → _ from fun i hi => absurd hi (Nat.not_lt_zero _)), Ext.refl _⟩
    case round =>
      obtain ⟨c, hc, rfl, HP, hE⟩ := hrel
      by_cases hlt : c < ll.length
      · obtain ⟨g, off, si, ci, rfl, hg, c1, L1, hci⟩ := (H.out.ext hE).at hlt
        have hn := HR.out c hlt
        have HC := hide (specBids si ci (ll.getD c []) p wr L1 hn)
        by_cases hln : (ll.getD c []).length = ll.length
        · have hd : (((ll.getD c []).length : Int) != (ll.length : Int)) = false := by rw [hln]; simp
          by_cases hb : bok (ll.getD c []) p
          · have HP2 := hide (show ∀ i, i < c + 1 → rwOk ll p i from fun i hi => by
              by_cases e : i = c
              · rw [e]; exact ⟨hln, hb⟩
              · exact HP.out i (by omega))
            rw [bokB_yes hb] at HC
            obtain ⟨x, hx⟩ : ∃ x, x = ll.getD c [] := ⟨_, rfl⟩; rw [← hx] at c1 L1 hn hd HC hci
            clear hx hb hln
            go_wp2_with fail; refine (HC.out).mono ?_; rintro e w2 ⟨rfl, E2⟩
            go_wp2
            go_roundw
            case rel => exact ⟨c + 1, by omega, by go_num, HP2, hE.trans E2⟩
            case measure => simp [intOf]; omega
          · have HF := hide (HNo.out fun h => hb (h.2 c hlt).2)
            rw [bokB_no hb] at HC
            obtain ⟨x, hx⟩ : ∃ x, x = ll.getD c [] := ⟨_, rfl⟩; rw [← hx] at c1 L1 hn hd HC hci
            clear hx hb hln
            go_wp2_with fail; refine (HC.out).mono ?_; rintro e w2 ⟨rfl, E2⟩
            go_wp2
            go_ret
            exact Ret.bool HF.out.symm (hE.trans E2)
        · have hd : (((ll.getD c []).length : Int) != (ll.length : Int)) = true := by rw [bne_iff_ne]; omega
          have HF := hide (HNo.out fun h => hln (h.2 c hlt).1)
          obtain ⟨x, hx⟩ : ∃ x, x = ll.getD c [] := ⟨_, rfl⟩; rw [← hx] at c1 L1 hn hd HC hci
          clear hx hln HC
          go_wp2
          go_ret
          exact Ret.bool HF.out.symm hE
      · obtain rfl : c = ll.length := by omega
        have HF := hide (HYes.out ⟨⟨by omega, by omega⟩, HP.out⟩)
        go_wp2
        go_ret
        exact Ret.bool HF.out.symm hE
  · have HF := hide (HNo.out fun h => h1 (inr_iff.2 ⟨by have := h.1.1; omega, by have := h.1.2; omega⟩))
    rw [Bool.not_eq_true] at h1
    go_enter Try.func54, Try.ntmps54
    go_wp2_with fail; refine (Same.eqB (specInr _ _ _ _) h1).mono ?_; rintro e w' ⟨rfl, rfl⟩
    go_wp2
    go_ret
    exact Ret.bool HF.out.symm (Ext.refl _)
set_option maxHeartbeats 1000000 in
theorem specBoL (sa : Option Addr) (cap n : Nat) (ll : List (List Int)) (p : Int) (w : World) (h : Mst w sa ll) (hn : ll.length = n) (hok : tOk ll p) :
    Calls Try.prog 55 #[.slice sa n cap] w (RetList (boL ll p) w) := by
  subst hn
  have H := hide h; clear h
  have h12 := hok.1.2
  have HR := hide (fun i hi => (hok.2 i hi).1)
  have HF := hide (boL_yes hok)
  have HBN := hide (fun c => bo_len ll c)
  have HS : Hid (∀ c, bo ll (c + 1) = bo ll c ++ [win (ll.getD c []) (inD (bo ll c)) ll.length]) := hide fun c => rfl
  clear hok
  go_enter Try.func55, Try.ntmps55
  go_wp2
  go_loopw [3, 4] (fun v i wr => ∃ (c : Nat) (s2 : Option Addr) (c2 : Nat) (o : List Int), c ≤ ll.length ∧ i = .int .i64 c ∧ v = .slice s2 o.length c2 ∧ Hid (o = bo ll c) ∧ Row w.heap.size wr s2 c2 o ∧ Ext w wr) (fun _ i _ => ll.length - (intOf i).toNat)
  case atStart => exact ⟨0, _, 0, [], Nat.zero_le _, rfl, rfl, rfl, Row.made _ _ (Nat.le_refl _), (Ext.refl _).alloc _⟩
  case round =>
    obtain ⟨c, s2, c2, o, hc, rfl, rfl, HO, hR, hE⟩ := hrel
    by_cases hlt : c < ll.length
    · obtain ⟨g, off, si, ci, rfl, hg, c1, L1, hci⟩ := (H.out.ext hE).at hlt
      have hol : o.length ≤ 12 := by have : o.length = c := by rw [HO.out]; exact HBN.out c
                                     omega
      have hlr := HR.out c hlt
      have HWI := hide (specWin si ci (ll.getD c []).length (ll.getD c []) s2 c2 o.length o wr L1 rfl (by omega) hR.lst rfl (by omega))
      rw [hlr] at HWI
      have HO2 := hide (show o ++ [win (ll.getD c []) (inD o) ll.length] = bo ll (c + 1) by rw [HS.out, HO.out])
      rw [hlr] at c1
      obtain ⟨z, hz⟩ : ∃ z, z = win (ll.getD c []) (inD o) ll.length := ⟨_, rfl⟩; rw [← hz] at HWI HO2
      clear hz L1 hci hlr
      go_wp2_with fail
      refine (HWI.out).mono ?_
      rintro e w2 ⟨rfl, E2⟩
      go_wp2_with (first | (at_builtin; refine append_int rfl (.tmp 12) (.tmp 19) rfl w.heap.size w2 s2 c2 o z _ rfl rfl (hR.ext E2) (by omega) (hE.trans E2).size ?_; intro g3 cap3 w3 R3 hb3))
      have E3 := Ext.of (Below.trans (hE.trans E2) hb3)
      clear hb3
      go_wp2
      go_roundw
      case rel => exact ⟨c + 1, _, _, _, by omega, by go_num, by rw [len_snocW o z], HO2, R3, E3⟩
      case measure => simp [intOf]; omega
    · obtain rfl : c = ll.length := by omega
      have HG := hide (show boL ll p = o by rw [HO.out, HF.out])
      go_wp2
      go_ret
      exact ⟨s2, c2, by rw [HG.out]; rfl, by rw [HG.out]; exact hR, hE⟩
set_option maxHeartbeats 400000 in
theorem specBO (sa : Option Addr) (cap : Nat) (ll : List (List Int)) (p : Int) (w : World) (h : Mst w sa ll) (hl : ll.length ≤ 2000000) (hr : ∀ i, i < ll.length → (ll.getD i []).length ≤ 2000000) :
    Calls Try.prog 18 #[.slice sa ll.length cap, .int .i64 p] w (RetList (boL ll p) w) := by
  have H := hide h; clear h
  have HR := hide hr; clear hr
  by_cases hok : tOk ll p
  · have HC := hide (fun w1 e => specBoL sa cap ll.length ll p w1 (H.out.ext e) rfl hok)
    have hb : tOkB ll p = true := decide_eq_true hok
    clear hok
    go_enter Try.func18, Try.ntmps18
    go_wp2_with fail; refine (Ret.eqB (specTab _ _ _ _ _ H.out hl HR.out) hb).mono ?_; rintro e w1 ⟨rfl, E1⟩
    go_wp2_with fail; refine (HC.out _ E1).mono ?_; rintro e w2 ⟨s2, c2, rfl, R2, hb2⟩
    have E := E1.trans (Ext.of hb2)
    have hz := E1.size
    clear hb2
    go_wp2
    go_ret
    exact ⟨s2, c2, rfl, R2.le hz, E⟩
  · have HF := hide (boL_no hok)
    have hb : tOkB ll p = false := decide_eq_false hok
    clear hok
    go_enter Try.func18, Try.ntmps18
    go_wp2_with fail; refine (Ret.eqB (specTab _ _ _ _ _ H.out hl HR.out) hb).mono ?_; rintro e w1 ⟨rfl, E1⟩
    go_wp2
    go_ret
    exact RetList.of (base := 0) HF.out (Row.nil _ _) E1
end Go.Proofs.Ythbkkbcbhhmhoab
