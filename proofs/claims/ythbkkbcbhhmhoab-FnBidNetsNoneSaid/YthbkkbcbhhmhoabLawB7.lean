/- Chapter 3: orders and net amounts by bids in plain numbers, and the walks of their laws, at drawn arguments. -/
import Derived.Test.YthbkkbcbhhmhoabDrawY
import Derived.Test.YthbkkbcbhhmhoabBidN
import Derived.Test.YthbkkbcbhhmhoabOrdN
namespace Go.Proofs.Ythbkkbcbhhmhoab
open Go.ChangeShapes Go.WideShapes Go.ChangeAt Go.RowKit Go.Joins Go.Sort
set_option linter.unusedVariables false

theorem bo_at {ll : List (List Int)} : ∀ n i, i < n → (bo ll n).getD i 0 = win (ll.getD i []) (inD (bo ll i)) ll.length := by
  intro n
  induction n with
  | zero => intro i hi; omega
  | succ n ih =>
    intro i hi
    show (bo ll n ++ [_]).getD i 0 = _
    rw [List.getD_eq_getElem?_getD]
    by_cases e : i < n
    · rw [List.getElem?_append_left (by rw [bo_len]; exact e), ← List.getD_eq_getElem?_getD, ih i e]
    · obtain rfl : i = n := by omega
      rw [List.getElem?_append_right (by rw [bo_len]; omega), bo_len]; simp
theorem bo_vo {ll : List (List Int)} {p : Int} (h : tOk ll p) : vo (bo ll ll.length) = true := by
  have hv := bo_vm ll.length (Nat.le_refl _) (fun i hi => h.2 i hi)
  refine vo_iff.2 ⟨by rw [bo_len]; exact h.1, ?_⟩
  rw [bo_len]; exact hv
set_option maxHeartbeats 1000000 in
theorem walkFnBidOrder (w : World) (sa : Option Addr) (len cap : Nat) (h : Code w sa len cap) (hl : len ≤ maxLen) :
    Calls Try.prog 13 #[.slice sa len cap] w fun e w' => e = .returned (.bool true) ∧ Below w.heap.size w w' := by
  have hl' := hl
  unfold maxLen at hl'
  by_cases hbig : 1048576 < len
  · clear h hl
    go_enter Try.func13, Try.ntmps13
    go_wp2
    go_ret
    exact ⟨rfl, Below.refl _ _⟩
  · go_enter Try.func13, Try.ntmps13
    go_wp2_with fail
    refine (dDrawBidOrder sa len cap w h hl).mono ?_
    rintro e w1 ⟨sb, cb, ll, hs, p, rfl, hM, l7, hrl, p0, p1, E1⟩
    have HM := hide hM.mst
    have HR := hide (show ∀ i, i < ll.length → (ll.getD i []).length ≤ 2000000 from fun i hi => Nat.le_trans (hrl i hi) (by omega))
    clear h hl hl' hbig hM hrl
    have HP1 := hide (fun w2 (e : Ext w1 w2) => implBO sb cb ll p w2 (HM.out.ext e) (by omega) HR.out)
    have HP2 := hide (fun w2 (e : Ext w1 w2) => specBO sb cb ll p w2 (HM.out.ext e) (by omega) HR.out)
    have hLl := boL_len ll p
    have hEQ := fun sa ca sb cb w2 ha hb => equalInts_any sa sb (boL ll p) (boL ll p) ca cb w2 ha hb (by omega) (by omega)
    rw [decide_eq_true (rfl : boL ll p = boL ll p)] at hEQ
    have HEQ := hide hEQ
    clear hEQ
    by_cases hok : tOk ll p
    · have h12 := hok.1
      have hlen : (boL ll p).length = ll.length := by rw [boL_yes hok, bo_len]
      have HAT := hide (fun i (hi : i < ll.length) => (show (boL ll p).getD i 0 = wnr (ll.getD i []) p (bo ll i) by rw [boL_yes hok, bo_at _ _ hi, (bo_win hi (fun j hj => hok.2 j (by omega)) (hok.2 i hi)).1]))
      have HTK := hide (fun c hc => show (boL ll p).take c = bo ll c by rw [boL_yes hok]; exact bo_take ll ll.length c hc)
      have HBL := hide (fun c => bo_len ll c)
      have HVO : Hid (vo (boL ll p) = true) := hide (by rw [boL_yes hok]; exact bo_vo hok)
      obtain ⟨L, hL⟩ : ∃ L, L = boL ll p := ⟨_, rfl⟩; rw [← hL] at HP1 HP2 HEQ hlen hLl HAT HTK HVO
      have hne : ((L.length : Int) == 0) = false := by rw [beq_eq_false_iff_ne]; omega
      have HLEN := hide hlen; clear hlen
      clear hL hok
      go_wp2_with fail; refine (HP1.out _ (Ext.refl _)).mono ?_; rintro e w2 ⟨s2, c2, rfl, R2, hb2⟩
      have E2 := Ext.of hb2
      go_wp2_with fail; refine (HP2.out _ E2).mono ?_; rintro e w3 ⟨s3, c3, rfl, R3, hb3⟩
      have E3 := Ext.of hb3
      have L2 := hide (R2.lst.ext E3)
      have L3 := hide R3.lst
      have hc2 := R2.cap
      clear hb2 hb3 R2 R3
      go_wp2_with fail; refine (HEQ.out s2 c2 s3 c3 _ L2.out L3.out).mono ?_; rintro e w4 ⟨rfl, hb4⟩
      have E4 := Ext.of hb4
      clear hb4
      have L4 := hide (L2.out.ext E4)
      have EX := (E2.trans E3).trans E4
      clear L2 L3
      go_wp2
      go_loopw [6] (fun i wr => ∃ c : Nat, c ≤ L.length ∧ i = .int .i64 c ∧ Ext w4 wr) (fun i _ => L.length - (intOf i).toNat)
      case atStart => exact ⟨0, Nat.zero_le _, rfl, Ext.refl _⟩
      case round =>
        obtain ⟨c, hc, rfl, hE⟩ := hrel
        by_cases hlt : c < L.length
        · have hcl : c < ll.length := by have := HLEN.out; omega
          obtain ⟨g, off, si, ci, rfl, hg, c1, L1, hci⟩ := (HM.out.ext (EX.trans hE)).at hcl
          obtain ⟨g2, off2, rfl, hg2, e2⟩ := (L4.out.ext hE).at hlt
          have LT := (L4.out.ext hE).take c
          rw [HTK.out c (by omega)] at LT
          rw [HAT.out c hcl] at e2
          have hn := HR.out c hcl
          have hcc : c ≤ c2 := by omega
          have HWI := hide (fun (dd : Nat) (os : Array Obj) => implWinner si ci (ll.getD c []) p (some ⟨g2, off2, none⟩) c2 (bo ll c) (grow (redrawn wr dd) os) (L1.ext (below_regrown _ _ _)) hn hci (LT.ext (below_regrown _ _ _)) (by rw [HBL.out]; omega) (by rw [HBL.out]; omega))
          rw [HBL.out c] at HWI
          obtain ⟨z, hz⟩ : ∃ z, z = wnr (ll.getD c []) p (bo ll c) := ⟨_, rfl⟩; rw [← hz] at e2 HWI
          obtain ⟨x, hx⟩ : ∃ x, x = ll.getD c [] := ⟨_, rfl⟩; rw [← hx] at c1 hn HWI hci L1
          have hd : ((z : Int) != z) = false := by simp
          have q1 := cell_regrown c1
          have q2 := cell_regrown e2
          have hcc2 : (c : Int) ≤ (c2 : Int) := by omega
          clear hz hx LT L1
          go_wp2
          refine wp_region_quiet_below (by kernel_rfl) (by kernel_rfl) ?_
          repeat (go_big_quiet_step ((first | (go_at_call 45; exact Same.quiet (HWI.out _ _)))))
          refine wpQuiet_nil ?_; intro w9 hq; have E9 := Ext.class hq; clear hq
          go_wp2
          go_roundw
          case rel => exact ⟨c + 1, by omega, by go_num, hE.trans E9⟩
          case measure => simp [intOf]; omega
        · obtain rfl : c = L.length := by omega
          go_wp2_with fail; refine (Same.eqB (implVO s2 c2 L _ (L4.out.ext hE) (by omega) hc2) HVO.out).mono ?_; rintro e w' ⟨rfl, rfl⟩
          have E := E1.trans (EX.trans hE)
          go_wp2
          go_ret
          exact ⟨rfl, E⟩
    · have hnil := boL_no hok
      rw [hnil] at HP1 HP2 HEQ
      clear hok hnil hLl
      go_wp2_with fail; refine (HP1.out _ (Ext.refl _)).mono ?_; rintro e w2 ⟨s2, c2, rfl, R2, hb2⟩
      have E2 := Ext.of hb2
      go_wp2_with fail; refine (HP2.out _ E2).mono ?_; rintro e w3 ⟨s3, c3, rfl, R3, hb3⟩
      have E3 := Ext.of hb3
      have L2 := hide (R2.lst.ext E3)
      have L3 := hide R3.lst
      clear hb2 hb3 R2 R3
      go_wp2_with fail; refine (HEQ.out s2 c2 s3 c3 _ L2.out L3.out).mono ?_; rintro e w4 ⟨rfl, hb4⟩
      have E4 := Ext.of hb4
      clear hb4
      go_wp2_with fail; refine (HP2.out _ ((E2.trans E3).trans E4)).mono ?_; rintro e w5 ⟨s5, c5, rfl, R5, hb5⟩
      have E5 := Ext.of hb5
      have L5 := hide R5.lst
      have L6 := hide ((L2.out.ext E4).ext E5)
      clear hb5 R5
      go_wp2_with fail; refine (HEQ.out s2 c2 s5 c5 _ L6.out L5.out).mono ?_; rintro e w6 ⟨rfl, hb6⟩
      have E6 := Ext.of hb6
      clear hb6
      have E := E1.trans (((E2.trans E3).trans E4).trans (E5.trans E6))
      go_wp2
      go_ret
      exact ⟨rfl, E⟩
end Go.Proofs.Ythbkkbcbhhmhoab
