/- Chapter 2: ballots: contracts. -/
import Derived.Test.YtjdfdikifiljjaaWins
namespace Go.Proofs.Ytjdfdikifiljjaa
open Go.ChangeShapes Go.WideShapes Go.ChangeAt Go.RowKit Go.Joins Go.Sort
set_option linter.unusedVariables false

/-- the votes of those with a ballot -/
def tlyK (l bs : List Int) (kind : Int) : Nat → Int
  | 0 => 0
  | k + 1 => tlyK l bs kind k + if bs.getD k 0 = kind then l.getD k 0 else 0
def tly (l bs : List Int) (kind : Int) : Int := tlyK l bs kind l.length
theorem tlyK_bd (l bs : List Int) (kind : Int) (h : ∀ x ∈ l, 0 ≤ x ∧ x ≤ 100) (k : Nat) (hk : k ≤ l.length) : 0 ≤ tlyK l bs kind k ∧ tlyK l bs kind k ≤ 100 * k := by
  induction k with
  | zero => exact ⟨Int.le_refl _, by simp [tlyK]⟩
  | succ k ih =>
    have h1 := ih (by omega)
    have h2 := h _ (getD_mem (show k < l.length by omega))
    unfold tlyK
    split <;> omega
theorem tly_bd (l bs : List Int) (kind : Int) (h : ∀ x ∈ l, 0 ≤ x ∧ x ≤ 100) : 0 ≤ tly l bs kind ∧ tly l bs kind ≤ 100 * l.length := tlyK_bd l bs kind h _ (Nat.le_refl _)
/-- ballots of a valid body -/
def vbal (l : List Int) (need : Int) (bs : List Int) : Bool := vb l need && (decide (bs.length = l.length) && alli bs 0 3)
theorem vbal_iff {l : List Int} {need : Int} {bs : List Int} : vbal l need bs = true ↔ vb l need = true ∧ bs.length = l.length ∧ ∀ x ∈ bs, 0 ≤ x ∧ x ≤ 3 := by
  unfold vbal; rw [Bool.and_eq_true, Bool.and_eq_true, alli_iff, decide_eq_true_eq]
def tlyR (l : List Int) (need : Int) (bs : List Int) (kind : Int) : Int := if vbal l need bs = true ∧ inr kind 0 3 = true then tly l bs kind else -1
theorem tlyR_yes {l : List Int} {need : Int} {bs : List Int} {kind : Int} (h : vbal l need bs = true) (h2 : inr kind 0 3 = true) : tlyR l need bs kind = tly l bs kind := if_pos ⟨h, h2⟩
theorem tlyR_no {l : List Int} {need : Int} {bs : List Int} {kind : Int} (h : ¬ (vbal l need bs = true ∧ inr kind 0 3 = true)) : tlyR l need bs kind = -1 := if_neg h
def passB (l : List Int) (need : Int) (bs : List Int) (quorum : Int) (simple : Bool) : Bool :=
  vbal l need bs && (decide (quorum ≤ tot l - tly l bs 0) && (if simple then decide (tly l bs 3 < tly l bs 1) else decide (need ≤ tly l bs 1)))

theorem implIsBallot (n : Int) (w : World) : Calls Try.prog 63 #[.int .i64 n] w (Same (.bool (inr n 0 3)) w) := by
  go_enter Try.func63, Try.ntmps63
  go_wp2_with fail; refine (implInr _ _ _ _).mono ?_; rintro e w' ⟨rfl, rfl⟩
  go_wp2
  go_ret
  exact Same.bool rfl
set_option maxHeartbeats 1000000 in
theorem specVBal (sa : Option Addr) (cap : Nat) (l : List Int) (need : Int) (sm : Option Addr) (cm : Nat) (m : List Int) (w : World) (h : Lst w sa l) (hl : l.length ≤ 2000000) (hm : Lst w sm m) (hml : m.length ≤ 2000000) :
    Calls Try.prog 60 #[.agg #[.slice sa l.length cap, .int .i64 need], .slice sm m.length cm] w (Ret (.bool (vbal l need m)) w) := by
  have H := hide (h.ext ((Ext.refl w).alloc (.cells #[.slice sa l.length cap, .int .i64 need] 27)))
  have HM := hide (hm.ext ((Ext.refl w).alloc (.cells #[.slice sa l.length cap, .int .i64 need] 27)))
  have X0 := Box.new w #[.slice sa l.length cap, .int .i64 need] 27
  clear h hm
  by_cases hv : vb l need = true
  · by_cases hlen : m.length = l.length
    · have hd := eq_len' hlen
      have HF := hide (show alli m 0 3 = vbal l need m by unfold vbal; rw [hv, decide_eq_true hlen]; rfl)
      have HLEN := hide hlen; clear hlen
      go_enter Try.func60, Try.ntmps60
      go_wp2_with fail; refine (Ret.eqB (specvBody _ _ l need _ H.out hl) hv).mono ?_; rintro e w1 ⟨rfl, E1⟩
      obtain ⟨c0, c1, _, _⟩ := (X0.keep E1).two
      go_wp2_with fail; refine (specAllIn _ _ _ m _ _ _ (HM.out.ext E1) rfl hml).mono ?_; rintro e w' ⟨rfl, rfl⟩
      go_wp2
      go_ret
      exact Ret.bool HF.out (((Ext.refl w).alloc _).trans E1)
    · have hd := ne_len' hlen
      have HF := hide (show vbal l need m = false by unfold vbal; rw [hv, decide_eq_false hlen]; rfl)
      clear hlen
      go_enter Try.func60, Try.ntmps60
      go_wp2_with fail; refine (Ret.eqB (specvBody _ _ l need _ H.out hl) hv).mono ?_; rintro e w1 ⟨rfl, E1⟩
      obtain ⟨c0, c1, _, _⟩ := (X0.keep E1).two
      go_wp2
      go_ret
      exact Ret.bool (by rw [HF.out]) (((Ext.refl w).alloc _).trans E1)
  · rw [Bool.not_eq_true] at hv
    have HF := hide (show vbal l need m = false by unfold vbal; rw [hv]; rfl)
    go_enter Try.func60, Try.ntmps60
    go_wp2_with fail; refine (Ret.eqB (specvBody _ _ l need _ H.out hl) hv).mono ?_; rintro e w1 ⟨rfl, E1⟩
    go_wp2
    go_ret
    exact Ret.bool (by rw [HF.out]) (((Ext.refl w).alloc _).trans E1)
set_option maxHeartbeats 1000000 in
theorem specTally (sa : Option Addr) (cap : Nat) (l : List Int) (need : Int) (sm : Option Addr) (cm : Nat) (m : List Int) (kind : Int) (w : World) (h : Lst w sa l) (hm : Lst w sm m) (hl : l.length ≤ 12) (hx : ∀ x ∈ l, 0 ≤ x ∧ x ≤ 100) (hlen : m.length = l.length) :
    Calls Try.prog 62 #[.agg #[.slice sa l.length cap, .int .i64 need], .slice sm m.length cm, .int .i64 kind] w (Ret (.int .i64 (tly l m kind)) w) := by
  have H := hide (h.ext ((Ext.refl w).alloc (.cells #[.slice sa l.length cap, .int .i64 need] 27)))
  have HM := hide (hm.ext ((Ext.refl w).alloc (.cells #[.slice sa l.length cap, .int .i64 need] 27)))
  clear h hm
  have HX := hide hx; clear hx
  have HLEN := hide hlen; clear hlen
  go_enter Try.func62, Try.ntmps62
  go_wp2
  go_loop [7, 8] (fun a i => ∃ c : Nat, c ≤ l.length ∧ i = .int .i64 c ∧ a = .int .i64 (tlyK l m kind c)) (fun _ i => l.length - (intOf i).toNat)
  case atStart => exact ⟨0, Nat.zero_le _, rfl, rfl⟩
  case round =>
    obtain ⟨c, hc, rfl, rfl⟩ := hrel
    have hb := tlyK_bd l m kind HX.out c hc
    by_cases hlt : c < l.length
    · have hlt2 : c < m.length := by have := HLEN.out; omega
      obtain ⟨g, off, rfl, hg, c1⟩ := H.out.at hlt
      obtain ⟨g2, off2, rfl, hg2, c2⟩ := HM.out.at hlt2
      have hx := HX.out _ (getD_mem hlt)
      have HS := hide (show tlyK l m kind (c + 1) = tlyK l m kind c + if m.getD c 0 = kind then l.getD c 0 else 0 from rfl)
      obtain ⟨x, hx2⟩ : ∃ x, x = l.getD c 0 := ⟨_, rfl⟩; rw [← hx2] at c1 hx HS
      obtain ⟨y, hy2⟩ : ∃ y, y = m.getD c 0 := ⟨_, rfl⟩; rw [← hy2] at c2 HS
      obtain ⟨t, ht⟩ : ∃ t, t = tlyK l m kind c := ⟨_, rfl⟩; rw [← ht] at hb HS ⊢
      clear hx2 ht hy2
      by_cases hbit : y = kind
      · rw [if_pos hbit] at HS
        have hd : ((y : Int) == kind) = true := by rw [beq_iff_eq]; exact hbit
        clear hbit
        go_wp2
        go_round
        case rel => exact ⟨c + 1, by omega, by go_num, by rw [HS.out]⟩
        case measure => simp [intOf]; omega
      · rw [if_neg hbit, Int.add_zero] at HS
        have hd : ((y : Int) == kind) = false := by rw [beq_eq_false_iff_ne]; exact hbit
        clear hbit
        go_wp2
        go_round
        case rel => exact ⟨c + 1, by omega, by go_num, by rw [HS.out]⟩
        case measure => simp [intOf]; omega
    · obtain rfl : c = l.length := by omega
      have hlt2 : ¬ l.length < m.length := by have := HLEN.out; omega
      go_wp2
      go_ret
      exact Ret.int rfl ((Ext.refl w).alloc _)
set_option maxHeartbeats 1000000 in
theorem specTallyOf (sa : Option Addr) (cap : Nat) (l : List Int) (need : Int) (sm : Option Addr) (cm : Nat) (m : List Int) (kind : Int) (w : World) (h : Lst w sa l) (hl : l.length ≤ 2000000) (hm : Lst w sm m) (hml : m.length ≤ 2000000) :
    Calls Try.prog 32 #[.agg #[.slice sa l.length cap, .int .i64 need], .slice sm m.length cm, .int .i64 kind] w (Ret (.int .i64 (tlyR l need m kind)) w) := by
  have H := hide (h.ext ((Ext.refl w).alloc (.cells #[.slice sa l.length cap, .int .i64 need] 27)))
  have HM := hide (hm.ext ((Ext.refl w).alloc (.cells #[.slice sa l.length cap, .int .i64 need] 27)))
  have X0 := Box.new w #[.slice sa l.length cap, .int .i64 need] 27
  clear h hm
  by_cases hv : vbal l need m = true
  · by_cases hk : inr kind 0 3 = true
    · have HF := hide (tlyR_yes hv hk)
      obtain ⟨v1, v2, _⟩ := vbal_iff.1 hv
      obtain ⟨_, v3, v4, _, _⟩ := vb_iff.1 v1
      have HX := hide v4; clear v4
      have HLEN := hide v2; clear v2
      clear v1
      go_enter Try.func32, Try.ntmps32
      go_wp2_with fail; refine (Ret.eqB (specVBal _ _ l need _ _ m _ H.out hl HM.out hml) hv).mono ?_; rintro e w1 ⟨rfl, E1⟩
      go_wp2_with fail; refine (Same.eqB (specInr _ _ _ _) hk).mono ?_; rintro e w' ⟨rfl, rfl⟩
      obtain ⟨c0, c1, _, _⟩ := (X0.keep E1).two
      go_wp2_with fail; refine (specTally _ _ l need _ _ m kind _ (H.out.ext E1) (HM.out.ext E1) v3 HX.out HLEN.out).mono ?_; rintro e w2 ⟨rfl, E2⟩
      go_wp2
      go_ret
      exact Ret.int HF.out.symm ((((Ext.refl w).alloc _).trans E1).trans E2)
    · have HF := hide (tlyR_no fun h => hk h.2 : tlyR l need m kind = -1)
      rw [Bool.not_eq_true] at hk
      go_enter Try.func32, Try.ntmps32
      go_wp2_with fail; refine (Ret.eqB (specVBal _ _ l need _ _ m _ H.out hl HM.out hml) hv).mono ?_; rintro e w1 ⟨rfl, E1⟩
      go_wp2_with fail; refine (Same.eqB (specInr _ _ _ _) hk).mono ?_; rintro e w' ⟨rfl, rfl⟩
      go_wp2
      go_ret
      exact Ret.int HF.out.symm (((Ext.refl w).alloc _).trans E1)
  · have HF := hide (tlyR_no fun h => hv h.1 : tlyR l need m kind = -1)
    rw [Bool.not_eq_true] at hv
    go_enter Try.func32, Try.ntmps32
    go_wp2_with fail; refine (Ret.eqB (specVBal _ _ l need _ _ m _ H.out hl HM.out hml) hv).mono ?_; rintro e w1 ⟨rfl, E1⟩
    go_wp2
    go_ret
    exact Ret.int HF.out.symm (((Ext.refl w).alloc _).trans E1)
set_option maxHeartbeats 1000000 in
theorem implTallyOf (sa : Option Addr) (cap : Nat) (l : List Int) (need : Int) (sm : Option Addr) (cm : Nat) (m : List Int) (kind : Int) (w : World) (h : Lst w sa l) (hl : l.length ≤ 2000000) (hm : Lst w sm m) (hml : m.length ≤ 2000000) :
    Calls Try.prog 33 #[.agg #[.slice sa l.length cap, .int .i64 need], .slice sm m.length cm, .int .i64 kind] w (Ret (.int .i64 (tlyR l need m kind)) w) := by
  have H := hide (h.ext ((Ext.refl w).alloc (.cells #[.slice sa l.length cap, .int .i64 need] 27)))
  have HM := hide (hm.ext ((Ext.refl w).alloc (.cells #[.slice sa l.length cap, .int .i64 need] 27)))
  have X0 := Box.new w #[.slice sa l.length cap, .int .i64 need] 27
  clear h hm
  by_cases hv : vb l need = true
  · by_cases hlen : m.length = l.length
    · by_cases hk : inr kind 0 3 = true
      · obtain ⟨_, v3, v4, _, _⟩ := vb_iff.1 hv
        have hd := eq_len hlen
        have HX := hide v4; clear v4
        have HLEN := hide hlen; clear hlen
        go_enter Try.func33, Try.ntmps33
        go_wp2_with fail; refine (Ret.eqB (implValidBody _ _ l need _ H.out hl) hv).mono ?_; rintro e w1 ⟨rfl, E1⟩
        obtain ⟨c0, c1, _, _⟩ := (X0.keep E1).two
        go_wp2_with fail; refine (Same.eqB (implIsBallot _ _) hk).mono ?_; rintro e w' ⟨rfl, rfl⟩
        go_wp2
        have HA := hide (((Ext.refl w).alloc _).trans E1)
        go_loop [7, 28] (fun a i => ∃ c : Nat, c ≤ l.length ∧ i = .int .i64 c ∧ a = .int .i64 (tlyK l m kind c) ∧ Hid (∀ x ∈ m.take c, 0 ≤ x ∧ x ≤ 3)) (fun _ i => l.length - (intOf i).toNat)
        case atStart => exact ⟨0, Nat.zero_le _, rfl, rfl, show ∀ x ∈ _, _ by simp⟩
        case round =>
          obtain ⟨c, hc, rfl, rfl, HT⟩ := hrel
          have hb := tlyK_bd l m kind HX.out c hc
          by_cases hlt : c < l.length
          · have hlt2 : c < m.length := by have := HLEN.out; omega
            obtain ⟨g, off, rfl, hg, d1⟩ := (H.out.ext E1).at hlt
            obtain ⟨g2, off2, rfl, hg2, d2⟩ := (HM.out.ext E1).at hlt2
            have hx := HX.out _ (getD_mem hlt)
            have HS := hide (show tlyK l m kind (c + 1) = tlyK l m kind c + if m.getD c 0 = kind then l.getD c 0 else 0 from rfl)
            obtain ⟨x, hx2⟩ : ∃ x, x = l.getD c 0 := ⟨_, rfl⟩; rw [← hx2] at d1 hx HS
            obtain ⟨y, hy2⟩ : ∃ y, y = m.getD c 0 := ⟨_, rfl⟩; rw [← hy2] at d2 HS
            obtain ⟨t, ht⟩ : ∃ t, t = tlyK l m kind c := ⟨_, rfl⟩; rw [← ht] at hb HS ⊢
            clear hx2 ht
            have HY := hide hy2; clear hy2
            by_cases hin : inr y 0 3 = true
            · have HT2 := hide (all_succ HT.out hlt2 (by rw [← HY.out]; exact inr_iff.1 hin))
              by_cases hbit : y = kind
              · rw [if_pos hbit] at HS
                have hdd : ((y : Int) == kind) = true := by rw [beq_iff_eq]; exact hbit
                clear hbit
                go_wp2_with fail; refine (implIsBallot _ _).mono ?_; rintro e w' ⟨rfl, rfl⟩
                go_wp2
                go_round
                case rel => exact ⟨c + 1, by omega, by go_num, by rw [HS.out], HT2⟩
                case measure => simp [intOf]; omega
              · rw [if_neg hbit, Int.add_zero] at HS
                have hdd : ((y : Int) == kind) = false := by rw [beq_eq_false_iff_ne]; exact hbit
                clear hbit
                go_wp2_with fail; refine (implIsBallot _ _).mono ?_; rintro e w' ⟨rfl, rfl⟩
                go_wp2
                go_round
                case rel => exact ⟨c + 1, by omega, by go_num, by rw [HS.out], HT2⟩
                case measure => simp [intOf]; omega
            · have HF := hide (tlyR_no fun h => hin (inr_iff.2 (by rw [HY.out]; exact (vbal_iff.1 h.1).2.2 _ (getD_mem hlt2))) : tlyR l need m kind = -1)
              rw [Bool.not_eq_true] at hin
              go_wp2_with fail; refine (implIsBallot _ _).mono ?_; rintro e w' ⟨rfl, rfl⟩
              go_wp2
              go_ret
              exact Ret.int HF.out.symm HA.out
          · obtain rfl : c = l.length := by omega
            have hlt2 : ¬ l.length < m.length := by have := HLEN.out; omega
            have HF := hide (show tlyR l need m kind = tlyK l m kind l.length from tlyR_yes (vbal_iff.2 ⟨hv, HLEN.out, by have := HT.out; rwa [← HLEN.out, List.take_length] at this⟩) hk)
            go_wp2
            go_ret
            exact Ret.int HF.out.symm HA.out
      · have HF := hide (tlyR_no fun h => hk h.2 : tlyR l need m kind = -1)
        rw [Bool.not_eq_true] at hk
        have hd := eq_len hlen
        have HLEN := hide hlen; clear hlen
        go_enter Try.func33, Try.ntmps33
        go_wp2_with fail; refine (Ret.eqB (implValidBody _ _ l need _ H.out hl) hv).mono ?_; rintro e w1 ⟨rfl, E1⟩
        obtain ⟨c0, c1, _, _⟩ := (X0.keep E1).two
        go_wp2_with fail; refine (Same.eqB (implIsBallot _ _) hk).mono ?_; rintro e w' ⟨rfl, rfl⟩
        go_wp2
        go_ret
        exact Ret.int HF.out.symm (((Ext.refl w).alloc _).trans E1)
    · have HF := hide (tlyR_no fun h => hlen (vbal_iff.1 h.1).2.1 : tlyR l need m kind = -1)
      have hd := ne_len hlen
      clear hlen
      go_enter Try.func33, Try.ntmps33
      go_wp2_with fail; refine (Ret.eqB (implValidBody _ _ l need _ H.out hl) hv).mono ?_; rintro e w1 ⟨rfl, E1⟩
      obtain ⟨c0, c1, _, _⟩ := (X0.keep E1).two
      go_wp2
      go_ret
      exact Ret.int HF.out.symm (((Ext.refl w).alloc _).trans E1)
  · have HF := hide (tlyR_no fun h => hv (vbal_iff.1 h.1).1 : tlyR l need m kind = -1)
    rw [Bool.not_eq_true] at hv
    go_enter Try.func33, Try.ntmps33
    go_wp2_with fail; refine (Ret.eqB (implValidBody _ _ l need _ H.out hl) hv).mono ?_; rintro e w1 ⟨rfl, E1⟩
    go_wp2
    go_ret
    exact Ret.int HF.out.symm (((Ext.refl w).alloc _).trans E1)
end Go.Proofs.Ytjdfdikifiljjaa
