/- Chapter 4: the polynomial with a secret: contracts of the program and of the model. -/
import Derived.Test.YtgmhodmgbhpdaabShr7
namespace Go.Proofs.Ytgmhodmgbhpdaab
open Go.ChangeShapes Go.WideShapes Go.ChangeAt Go.RowKit Go.Joins Go.Sort
set_option linter.unusedVariables false

open Classical in
/-- the polynomial with a secret, nothing for others -/
noncomputable def pwR (ll : List Sh) (s : Int) : List Int := if svOk ll ∧ ll.length ≤ 7 ∧ inr s 0 250 = true then thr (⟨0, s⟩ :: ll) else []
theorem pwR_yes {ll : List Sh} {s : Int} (h : svOk ll) (h7 : ll.length ≤ 7) (hs : inr s 0 250 = true) : pwR ll s = thr (⟨0, s⟩ :: ll) := if_pos ⟨h, h7, hs⟩
theorem pwR_no {ll : List Sh} {s : Int} (h : ¬ (svOk ll ∧ ll.length ≤ 7 ∧ inr s 0 250 = true)) : pwR ll s = [] := if_neg h
theorem gd_zero {ll : List Sh} {s : Int} (h : svOk ll) (hs : inr s 0 250 = true) : gd (⟨0, s⟩ :: ll) := by
  have h2 := inr_iff.1 hs
  refine ⟨fun x hx => ?_, fun y hy => ?_, ?_⟩
  · rcases List.mem_cons.1 hx with rfl | hx
    · exact ⟨Int.le_refl _, by show (0 : Int) ≤ 250; omega⟩
    · exact h.gd.1 x hx
  · rcases List.mem_cons.1 hy with rfl | hy
    · exact h2
    · exact h.2 y hy
  · show (0 :: xsL ll).Nodup
    rw [List.nodup_cons]
    refine ⟨fun hm => ?_, h.1.2.2⟩
    have := h.1.2.1 _ hm; omega
theorem pwR_len (ll : List Sh) (s : Int) : (pwR ll s).length ≤ 8 := by
  by_cases h : svOk ll ∧ ll.length ≤ 7 ∧ inr s 0 250 = true
  · rw [pwR_yes h.1 h.2.1 h.2.2, thr_len (gd_zero h.1 h.2.2)]; simp; omega
  · rw [pwR_no h]; exact Nat.zero_le _
set_option maxHeartbeats 800000 in
theorem implPW (sa : Option Addr) (cap n : Nat) (ll : List Sh) (s : Int) (w : World) (h : Sst w sa ll) (hn : ll.length = n) (hl : n ≤ 2000000) :
    Calls Try.prog 43 #[.slice sa n cap, .int .i64 s] w (RetList (pwR ll s) w) := by
  subst hn
  have H := hide h; clear h
  by_cases hv : svOk ll; rotate_left
  · have HF := hide (pwR_no (ll := ll) (s := s) fun h => hv h.1)
    have hvb := svB_no hv
    clear hv
    go_enter Try.func43, Try.ntmps43
    go_wp2_with fail; refine (Ret.eqB (implVS _ _ _ ll _ H.out rfl hl) hvb).mono ?_; rintro e w1 ⟨rfl, E1⟩
    go_wp2
    go_ret
    exact RetList.of (base := 0) HF.out (Row.nil _ _) E1
  have hvb := svB_yes hv
  have h12 := hv.len
  by_cases h7 : ll.length ≤ 7; rotate_left
  · have HF := hide (pwR_no (ll := ll) (s := s) fun h => h7 h.2.1)
    have h8 : (8 : Int) ≤ (ll.length : Int) := by omega
    have h8' : (7 : Int) < (ll.length : Int) := by omega
    clear hv h7
    go_enter Try.func43, Try.ntmps43
    go_wp2_with fail; refine (Ret.eqB (implVS _ _ _ ll _ H.out rfl hl) hvb).mono ?_; rintro e w1 ⟨rfl, E1⟩
    go_wp2
    go_ret
    exact RetList.of (base := 0) HF.out (Row.nil _ _) E1
  have h8 : ¬ (8 : Int) ≤ (ll.length : Int) := by omega
  have h8' : ¬ (7 : Int) < (ll.length : Int) := by omega
  by_cases hs : inr s 0 250 = true; rotate_left
  · have HF := hide (pwR_no (ll := ll) (s := s) fun h => hs h.2.2)
    rw [Bool.not_eq_true] at hs
    clear hv
    go_enter Try.func43, Try.ntmps43
    go_wp2_with fail; refine (Ret.eqB (implVS _ _ _ ll _ H.out rfl hl) hvb).mono ?_; rintro e w1 ⟨rfl, E1⟩
    go_wp2_with fail; refine (Same.eqB (implIsRest _ _) hs).mono ?_; rintro e w' ⟨rfl, rfl⟩
    go_wp2
    go_ret
    exact RetList.of (base := 0) HF.out (Row.nil _ _) E1
  have HF := hide (pwR_yes hv h7 hs)
  have HGD := hide (gd_zero hv hs)
  have HT := hide (fun q (h : isT (⟨0, s⟩ :: ll) q) => thr_of (gd_zero hv hs) h)
  have HCL := hide (show ([⟨0, s⟩] ++ ll : List Sh).length = 1 + ll.length by rw [List.length_append]; rfl)
  have HCR := hide (show ([⟨0, s⟩] ++ ll : List Sh) = ⟨0, s⟩ :: ll from rfl)
  clear hv
  go_enter Try.func43, Try.ntmps43
  go_wp2_with fail; refine (Ret.eqB (implVS _ _ _ ll _ H.out rfl hl) hvb).mono ?_; rintro e w1 ⟨rfl, E1⟩
  go_wp2_with fail; refine (Same.eqB (implIsRest _ _) hs).mono ?_; rintro e w' ⟨rfl, rfl⟩
  have A0 : ArrS (w1.alloc (.cells #[.int .i64 0, .int .i64 s] 40)) w1.heap.size [⟨0, s⟩] := ArrS.new w1 [⟨0, s⟩]
  have R0 : RowS w1.heap.size (w1.alloc (.cells #[.int .i64 0, .int .i64 s] 40)) (some ⟨w1.heap.size, 0, none⟩) 1 [⟨0, s⟩] := A0.row (Nat.le_refl _) (by simp)
  have EA := (Ext.refl w1).alloc (.cells #[.int .i64 0, .int .i64 s] 40)
  go_wp2_with (first | (at_builtin; refine append_shares rfl (.tmp 22) (.tmp 23) rfl w1.heap.size (w1.alloc (.cells #[.int .i64 0, .int .i64 s] 40)) (some ⟨w1.heap.size, 0, none⟩) sa 1 ll.length 1 cap [⟨0, s⟩] ll rfl rfl rfl rfl R0 (by omega) (by omega) (by simp) (H.out.ext (E1.trans EA)) ?_; intro sg c3 w3 R3 hb3; have hne3 := hide hb3))
  have E3 := EA.below hne3.out (Nat.le_refl _)
  have E13 := E1.trans E3
  rw [HCR.out] at R3 HCL
  have LS := hide R3.sst
  obtain ⟨L, hL⟩ : ∃ L, L = (⟨0, s⟩ :: ll : List Sh) := ⟨_, rfl⟩; rw [← hL] at HF HGD HT HCL LS
  clear hL R3 hne3 hb3 A0 R0
  go_wp2_with fail; refine (implThr sg c3 (1 + ll.length) L _ LS.out HCL.out (by omega) HGD.out).mono ?_; rintro e w4 ⟨q, sq, cq, rfl, HQ, Rq, E4⟩
  have HE := hide (show pwR ll s = q by rw [HF.out]; exact HT.out q HQ)
  have R5 := Rq.le (base' := w.heap.size + 0) E13.size
  clear HQ Rq
  go_wp2
  go_ret
  exact RetList.of (base := 0) HE.out R5 (E13.trans E4)
set_option maxHeartbeats 800000 in
theorem specPW (sa : Option Addr) (cap n : Nat) (ll : List Sh) (s : Int) (w : World) (h : Sst w sa ll) (hn : ll.length = n) (hl : n ≤ 2000000) :
    Calls Try.prog 42 #[.slice sa n cap, .int .i64 s] w (RetList (pwR ll s) w) := by
  subst hn
  have H := hide h; clear h
  by_cases hv : svOk ll; rotate_left
  · have HF := hide (pwR_no (ll := ll) (s := s) fun h => hv h.1)
    have hvb := svB_no hv
    clear hv
    go_enter Try.func42, Try.ntmps42
    go_wp2_with fail; refine (Ret.eqB (specvS _ _ _ ll _ H.out rfl hl) hvb).mono ?_; rintro e w1 ⟨rfl, E1⟩
    go_wp2
    go_ret
    exact RetList.of (base := 0) HF.out (Row.nil _ _) E1
  have hvb := svB_yes hv
  have h12 := hv.len
  by_cases h7 : ll.length ≤ 7; rotate_left
  · have HF := hide (pwR_no (ll := ll) (s := s) fun h => h7 h.2.1)
    have h8 : (8 : Int) ≤ (ll.length : Int) := by omega
    have h8' : (7 : Int) < (ll.length : Int) := by omega
    clear hv h7
    go_enter Try.func42, Try.ntmps42
    go_wp2_with fail; refine (Ret.eqB (specvS _ _ _ ll _ H.out rfl hl) hvb).mono ?_; rintro e w1 ⟨rfl, E1⟩
    go_wp2
    go_ret
    exact RetList.of (base := 0) HF.out (Row.nil _ _) E1
  have h8 : ¬ (8 : Int) ≤ (ll.length : Int) := by omega
  have h8' : ¬ (7 : Int) < (ll.length : Int) := by omega
  by_cases hs : inr s 0 250 = true; rotate_left
  · have HF := hide (pwR_no (ll := ll) (s := s) fun h => hs h.2.2)
    rw [Bool.not_eq_true] at hs
    clear hv
    go_enter Try.func42, Try.ntmps42
    go_wp2_with fail; refine (Ret.eqB (specvS _ _ _ ll _ H.out rfl hl) hvb).mono ?_; rintro e w1 ⟨rfl, E1⟩
    go_wp2_with fail; refine (Same.eqB (specRest _ _) hs).mono ?_; rintro e w' ⟨rfl, rfl⟩
    go_wp2
    go_ret
    exact RetList.of (base := 0) HF.out (Row.nil _ _) E1
  have HF := hide (pwR_yes hv h7 hs)
  have HGD := hide (gd_zero hv hs)
  have HT := hide (fun q (h : isT (⟨0, s⟩ :: ll) q) => thr_of (gd_zero hv hs) h)
  have HCL := hide (show ([⟨0, s⟩] ++ ll : List Sh).length = 1 + ll.length by rw [List.length_append]; rfl)
  have HCR := hide (show ([⟨0, s⟩] ++ ll : List Sh) = ⟨0, s⟩ :: ll from rfl)
  clear hv
  go_enter Try.func42, Try.ntmps42
  go_wp2_with fail; refine (Ret.eqB (specvS _ _ _ ll _ H.out rfl hl) hvb).mono ?_; rintro e w1 ⟨rfl, E1⟩
  go_wp2_with fail; refine (Same.eqB (specRest _ _) hs).mono ?_; rintro e w' ⟨rfl, rfl⟩
  have A0 : ArrS (w1.alloc (.cells #[.int .i64 0, .int .i64 s] 40)) w1.heap.size [⟨0, s⟩] := ArrS.new w1 [⟨0, s⟩]
  have R0 : RowS w1.heap.size (w1.alloc (.cells #[.int .i64 0, .int .i64 s] 40)) (some ⟨w1.heap.size, 0, none⟩) 1 [⟨0, s⟩] := A0.row (Nat.le_refl _) (by simp)
  have EA := (Ext.refl w1).alloc (.cells #[.int .i64 0, .int .i64 s] 40)
  go_wp2_with (first | (at_builtin; refine append_shares rfl (.tmp 20) (.tmp 21) rfl w1.heap.size (w1.alloc (.cells #[.int .i64 0, .int .i64 s] 40)) (some ⟨w1.heap.size, 0, none⟩) sa 1 ll.length 1 cap [⟨0, s⟩] ll rfl rfl rfl rfl R0 (by omega) (by omega) (by simp) (H.out.ext (E1.trans EA)) ?_; intro sg c3 w3 R3 hb3; have hne3 := hide hb3))
  have E3 := EA.below hne3.out (Nat.le_refl _)
  have E13 := E1.trans E3
  rw [HCR.out] at R3 HCL
  have LS := hide R3.sst
  obtain ⟨L, hL⟩ : ∃ L, L = (⟨0, s⟩ :: ll : List Sh) := ⟨_, rfl⟩; rw [← hL] at HF HGD HT HCL LS
  clear hL R3 hne3 hb3 A0 R0
  go_wp2_with fail; refine (specThr sg c3 (1 + ll.length) L _ LS.out HCL.out (by omega) HGD.out).mono ?_; rintro e w4 ⟨q, sq, cq, rfl, HQ, Rq, E4⟩
  have HE := hide (show pwR ll s = q by rw [HF.out]; exact HT.out q HQ)
  have R5 := Rq.le (base' := w.heap.size + 0) E13.size
  clear HQ Rq
  go_wp2
  go_ret
  exact RetList.of (base := 0) HE.out R5 (E13.trans E4)
end Go.Proofs.Ytgmhodmgbhpdaab
