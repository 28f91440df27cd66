/- Chapter 3: exchanged turns in plain numbers, and the walk of their law, at drawn arguments. -/
import Derived.Test.YthbkkbcbhhmhoacDrawQ
import Derived.Test.YthbkkbcbhhmhoacOrd2
import Derived.Test.YthbkkbcbhhmhoacOrd3
namespace Go.Proofs.Ythbkkbcbhhmhoac
open Go.ChangeShapes Go.WideShapes Go.ChangeAt Go.RowKit Go.Joins Go.Sort
set_option linter.unusedVariables false

def tau (i j p : Nat) : Nat := if p = i then j else if p = j then i else p
theorem nodup_of {l : List Int} (h : ∀ p q, p < q → q < l.length → l.getD p 0 ≠ l.getD q 0) : l.Nodup := by
  refine List.pairwise_iff_getElem.2 fun p q hp hq hpq => ?_
  have := h p q hpq hq
  rwa [List.getD_eq_getElem?_getD, List.getD_eq_getElem?_getD, List.getElem?_eq_getElem hp, List.getElem?_eq_getElem hq] at this
theorem swp_at {l : List Int} {i j : Nat} (hi : i < l.length) (hj : j < l.length) {p : Nat} (hp : p < l.length) : ((l.set i (l.getD j 0)).set j (l.getD i 0)).getD p 0 = l.getD (tau i j p) 0 := by
  rw [set_at _ _ _ _ (by rw [List.length_set]; exact hj), set_at _ _ _ _ hi]
  unfold tau
  by_cases e1 : p = j
  · rw [if_pos e1]
    by_cases e2 : p = i
    · rw [if_pos e2, ← e1, e2]
    · rw [if_neg e2, if_pos e1]
  · rw [if_neg e1]
    by_cases e2 : p = i
    · rw [if_pos e2, if_pos e2]
    · rw [if_neg e2, if_neg e2, if_neg e1]
theorem tau_lt {i j p n : Nat} (hi : i < n) (hj : j < n) (hp : p < n) : tau i j p < n := by unfold tau; split; exact hj; split <;> assumption
theorem tau_inj {i j p q : Nat} (h : tau i j p = tau i j q) : p = q := by
  unfold tau at h
  split at h <;> split at h <;> (try split at h) <;> (try split at h) <;> omega
theorem swp_vo {l : List Int} (hv : vo l = true) {i j : Nat} (hi : i < l.length) (hj : j < l.length) : vo ((l.set i (l.getD j 0)).set j (l.getD i 0)) = true := by
  obtain ⟨h1, hx, hn⟩ := vo_facts hv
  have hlen : ((l.set i (l.getD j 0)).set j (l.getD i 0)).length = l.length := by rw [List.length_set, List.length_set]
  refine vo_iff.2 ⟨by rw [hlen]; exact h1, vmB_iff.2 ⟨fun x hm => ?_, nodup_of fun p q hpq hq => ?_⟩⟩
  · obtain ⟨p, hp, rfl⟩ := mem_getD hm
    rw [hlen] at hp ⊢
    rw [swp_at hi hj hp]
    exact hx _ (getD_mem (tau_lt hi hj hp))
  · rw [hlen] at hq
    rw [swp_at hi hj (show p < l.length by omega), swp_at hi hj hq]
    intro e
    have := tau_inj (getD_inj hn (tau_lt hi hj (show p < l.length by omega)) (tau_lt hi hj hq) e)
    omega
theorem swp_facts {l : List Int} {a b : Int} (h : swOk l a b) : ∃ i j : Nat, i < l.length ∧ j < l.length ∧ tno l b = (j : Int) ∧ vo (swpL l a b) = true ∧ (swpL l a b).length = l.length ∧ tno (swpL l a b) a = (j : Int) ∧ swpL (swpL l a b) a b = l ∧
    (∀ k, k < l.length → l.getD k 0 ≠ a → l.getD k 0 ≠ b → tno (swpL l a b) (l.getD k 0) = (k : Int)) := by
  obtain ⟨hv, ha, hb⟩ := id h
  obtain ⟨i, hi, ea⟩ := mem_getD ha
  obtain ⟨j, hj, eb⟩ := mem_getD hb
  have hn := (vo_facts hv).2.2
  have pa : plc l a = (i : Int) := by rw [← ea]; exact plc_nodup hn hi
  have pb : plc l b = (j : Int) := by rw [← eb]; exact plc_nodup hn hj
  have e : swpL l a b = (l.set i (l.getD j 0)).set j (l.getD i 0) := by rw [swpL_yes h, pa, pb, Int.toNat_natCast, Int.toNat_natCast, ea, eb]
  have hlen : (swpL l a b).length = l.length := by rw [e, List.length_set, List.length_set]
  have hv2 : vo (swpL l a b) = true := by rw [e]; exact swp_vo hv hi hj
  have hat : ∀ p, p < l.length → (swpL l a b).getD p 0 = l.getD (tau i j p) 0 := fun p hp => by rw [e]; exact swp_at hi hj hp
  have hn2 := (vo_facts hv2).2.2
  have tj : tau i j j = i := by unfold tau; split; omega; rw [if_pos rfl]
  have ti : tau i j i = j := by unfold tau; rw [if_pos rfl]
  have qa : plc (swpL l a b) a = (j : Int) := by
    have := plc_nodup hn2 (k := j) (by rw [hlen]; exact hj)
    rwa [hat j hj, tj, ea] at this
  have qb : plc (swpL l a b) b = (i : Int) := by
    have := plc_nodup hn2 (k := i) (by rw [hlen]; exact hi)
    rwa [hat i hi, ti, eb] at this
  have ma : a ∈ swpL l a b := plc_of (by rw [qa]; omega)
  have mb : b ∈ swpL l a b := plc_of (by rw [qb]; omega)
  refine ⟨i, j, hi, hj, by rw [tno_yes hv, pb], hv2, hlen, by rw [tno_yes hv2, qa], ?_, fun k hk h1 h2 => ?_⟩
  · rw [swpL_yes ⟨hv2, ma, mb⟩, qa, qb, Int.toNat_natCast, Int.toNat_natCast]
    apply getD_ext (by rw [List.length_set, List.length_set, hlen])
    intro p hp
    rw [List.length_set, List.length_set, hlen] at hp
    rw [set_at _ _ _ _ (by rw [List.length_set, hlen]; exact hi), set_at _ _ _ _ (by rw [hlen]; exact hj), hat p hp]
    by_cases e1 : p = i
    · rw [if_pos e1, e1, ea]
    · rw [if_neg e1]
      by_cases e2 : p = j
      · rw [if_pos e2, e2, eb]
      · rw [if_neg e2]; unfold tau; rw [if_neg e1, if_neg e2]
  · have e1 : k ≠ i := fun e => h1 (by rw [e, ea])
    have e2 : k ≠ j := fun e => h2 (by rw [e, eb])
    have := plc_nodup hn2 (k := k) (by rw [hlen]; exact hk)
    rw [hat k hk] at this
    unfold tau at this
    rw [if_neg e1, if_neg e2] at this
    rw [tno_yes hv2, this]

set_option maxHeartbeats 1000000 in
theorem walkFnSwapTurns (w : World) (sa : Option Addr) (len cap : Nat) (h : Code w sa len cap) (hl : len ≤ maxLen) :
    Calls Try.prog 10 #[.slice sa len cap] w fun e w' => e = .returned (.bool true) ∧ Below w.heap.size w w' := by
  have hl' := hl
  unfold maxLen at hl'
  by_cases hbig : 1048576 < len
  · clear h hl
    go_enter Try.func10, Try.ntmps10
    go_wp2
    go_ret
    exact ⟨rfl, Below.refl _ _⟩
  · go_enter Try.func10, Try.ntmps10
    go_wp2_with fail
    refine (dDrawSwapTurns sa len cap w h hl).mono ?_
    rintro e w1 ⟨sb, cb, l, a, b, rfl, hR, l12, _, _, _, _, E1⟩
    have HL := hide hR.lst
    have hcap := hR.cap
    clear h hl hl' hbig hR
    have HP1 := hide (fun w2 (e : Ext w1 w2) => implSwap sb cb l a b w2 (HL.out.ext e) (by omega) hcap)
    have HP2 := hide (fun w2 (e : Ext w1 w2) => specSwap sb cb l a b w2 (HL.out.ext e) (by omega) hcap)
    have hLl := swpL_len l a b
    have hEQ := fun sa ca sb cb w2 ha hb => equalInts_any sa sb (swpL l a b) (swpL l a b) ca cb w2 ha hb (by omega) (by omega)
    rw [decide_eq_true (rfl : swpL l a b = swpL l a b)] at hEQ
    have HEQ := hide hEQ
    clear hEQ
    by_cases hok : swOk l a b
    · obtain ⟨i, j, hi, hj, t1, hv2, hlen, t2, hback, hoth⟩ := swp_facts hok
      have HTb := hide (fun w2 (e : Ext w1 w2) => implTurn sb cb l b w2 (HL.out.ext e) (by omega) hcap)
      rw [t1] at HTb
      have HO := hide hoth
      have HTO := hide (fun s c w2 (h : Lst w2 s (swpL l a b)) (hc : (swpL l a b).length ≤ c) x => implTurn s c (swpL l a b) x w2 h (by omega) hc)
      have HTa := hide (fun s c w2 (h : Lst w2 s (swpL l a b)) (hc : (swpL l a b).length ≤ c) => by
        have := implTurn s c (swpL l a b) a w2 h (by omega) hc
        rwa [t2] at this)
      have HSS := hide (fun s c w2 (h : Lst w2 s (swpL l a b)) (hc : (swpL l a b).length ≤ c) => by
        have := implSwap s c (swpL l a b) a b w2 h (by omega) hc
        rwa [hback] at this)
      have hEQ2 := fun sa ca sb cb w2 ha hb => equalInts_any sa sb l l ca cb w2 ha hb (by omega) (by omega)
      rw [decide_eq_true (rfl : l = l)] at hEQ2
      have HEQ2 := hide hEQ2
      clear hEQ2 hoth hback t1 t2 hv2
      obtain ⟨S, hS⟩ : ∃ S, S = swpL l a b := ⟨_, rfl⟩; rw [← hS] at HP1 HP2 HEQ HO HTO HTa HSS hlen hLl
      have hne : ((S.length : Int) == 0) = false := by rw [beq_eq_false_iff_ne]; omega
      have HLEN := hide hlen; clear hlen
      clear hS hok
      go_wp2_with fail; refine (HP1.out _ (Ext.refl _)).mono ?_; rintro e w2 ⟨s2, c2, rfl, R2, hb2⟩
      have E2 := Ext.of hb2
      go_wp2_with fail; refine (HP2.out _ E2).mono ?_; rintro e w3 ⟨s3, c3, rfl, R3, hb3⟩
      have E3 := Ext.of hb3
      have L2 := hide (R2.lst.ext E3)
      have L3 := hide R3.lst
      have hc2 := R2.cap
      clear hb2 hb3 R2 R3
      go_wp2_with fail; refine (HEQ.out s2 c2 s3 c3 _ L2.out L3.out).mono ?_; rintro e w4 ⟨rfl, hb4⟩
      have E4 := Ext.of hb4
      clear hb4
      have L4 := hide (L2.out.ext E4)
      have EX := (E2.trans E3).trans E4
      clear L2 L3
      go_wp2
      go_loop [7] (fun i => ∃ k : Nat, k ≤ l.length ∧ i = .int .i64 k) (fun i => l.length - (intOf i).toNat)
      case atStart => exact ⟨0, Nat.zero_le _, rfl⟩
      case round =>
        obtain ⟨k, hk, rfl⟩ := hrel
        by_cases hlt : k < l.length
        · obtain ⟨g, off, rfl, hg, c1⟩ := (HL.out.ext EX).at hlt
          have HO2 := hide (HO.out k hlt)
          obtain ⟨x, hx⟩ : ∃ x, x = l.getD k 0 := ⟨_, rfl⟩; rw [← hx] at c1 HO2
          clear hx
          by_cases h1 : x = a
          · have hd1 : (x != a) = false := by rw [bne_eq_false_iff_eq]; exact h1
            clear h1
            go_wp2
            go_round
            case rel => exact ⟨k + 1, by omega, by go_num⟩
            case measure => simp [intOf]; omega
          · have hd1 : (x != a) = true := by rw [bne_iff_ne]; exact h1
            by_cases h2 : x = b
            · have hd2 : (x != b) = false := by rw [bne_eq_false_iff_eq]; exact h2
              clear h1 h2
              go_wp2
              go_round
              case rel => exact ⟨k + 1, by omega, by go_num⟩
              case measure => simp [intOf]; omega
            · have hd2 : (x != b) = true := by rw [bne_iff_ne]; exact h2
              have HT := HTO.out s2 c2 _ L4.out hc2 x
              rw [HO2.out h1 h2] at HT
              have HT2 := hide HT; clear HT
              clear h1 h2
              go_wp2_with fail; refine (HT2.out).mono ?_; rintro e w' ⟨rfl, rfl⟩
              go_wp2
              go_round
              case rel => exact ⟨k + 1, by omega, by go_num⟩
              case measure => simp [intOf]; omega
        · obtain rfl : k = l.length := by omega
          go_wp2_with fail; refine (HSS.out s2 c2 _ L4.out hc2).mono ?_; rintro e w5 ⟨s5, c5, rfl, R5, hb5⟩
          have E5 := Ext.of hb5
          have L5 := hide R5.lst
          clear hb5 R5
          go_wp2_with fail; refine (HEQ2.out s5 c5 sb cb _ L5.out (HL.out.ext (EX.trans E5))).mono ?_; rintro e w6 ⟨rfl, hb6⟩
          have E6 := Ext.of hb6
          clear hb6
          go_wp2_with fail; refine (HTa.out s2 c2 _ ((L4.out.ext E5).ext E6) hc2).mono ?_; rintro e w' ⟨rfl, rfl⟩
          go_wp2_with fail; refine (HTb.out _ ((EX.trans E5).trans E6)).mono ?_; rintro e w' ⟨rfl, rfl⟩
          have E := E1.trans ((EX.trans E5).trans E6)
          go_wp2
          go_ret
          exact ⟨rfl, E⟩
    · have hnil := swpL_no hok
      rw [hnil] at HP1 HP2 HEQ
      clear hok hnil hLl
      go_wp2_with fail; refine (HP1.out _ (Ext.refl _)).mono ?_; rintro e w2 ⟨s2, c2, rfl, R2, hb2⟩
      have E2 := Ext.of hb2
      go_wp2_with fail; refine (HP2.out _ E2).mono ?_; rintro e w3 ⟨s3, c3, rfl, R3, hb3⟩
      have E3 := Ext.of hb3
      have L2 := hide (R2.lst.ext E3)
      have L3 := hide R3.lst
      clear hb2 hb3 R2 R3
      go_wp2_with fail; refine (HEQ.out s2 c2 s3 c3 _ L2.out L3.out).mono ?_; rintro e w4 ⟨rfl, hb4⟩
      have E4 := Ext.of hb4
      clear hb4
      go_wp2_with fail; refine (HP2.out _ ((E2.trans E3).trans E4)).mono ?_; rintro e w5 ⟨s5, c5, rfl, R5, hb5⟩
      have E5 := Ext.of hb5
      have L5 := hide R5.lst
      have L6 := hide ((L2.out.ext E4).ext E5)
      clear hb5 R5
      go_wp2_with fail; refine (HEQ.out s2 c2 s5 c5 _ L6.out L5.out).mono ?_; rintro e w6 ⟨rfl, hb6⟩
      have E6 := Ext.of hb6
      clear hb6
      have E := E1.trans (((E2.trans E3).trans E4).trans (E5.trans E6))
      go_wp2
      go_ret
      exact ⟨rfl, E⟩
end Go.Proofs.Ythbkkbcbhhmhoac
