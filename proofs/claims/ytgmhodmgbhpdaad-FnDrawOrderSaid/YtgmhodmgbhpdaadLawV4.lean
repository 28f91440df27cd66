/- Chapter 3: the walk of the law of drawn orders, at drawn arguments. -/
import Derived.Test.YtgmhodmgbhpdaadLawV3
import Derived.Test.YtgmhodmgbhpdaadRev7
import Derived.Test.YtgmhodmgbhpdaadOrdK
namespace Go.Proofs.Ytgmhodmgbhpdaad
open Go.ChangeShapes Go.WideShapes Go.ChangeAt Go.RowKit Go.Joins Go.Sort
set_option linter.unusedVariables false

theorem fI_three : fI 3 = 6 := by rfl
theorem dr_main {l : List Rv} {n : Int} (h0 : 0 < (drL l n).length) : rvsOk l ∧ vo (drL l n) = true ∧ ((drL l n).length : Int) = n := by
  by_cases h : drOk l n
  · have hf := fI_pos n
    have hk : oOk (smK l l.length % fI n) n := ⟨h.2, Int.emod_nonneg _ (by omega), by have := Int.emod_lt_of_pos (smK l l.length) (show 0 < fI n by omega); omega⟩
    rw [drL_yes h]
    have := ord_ok hk
    exact ⟨h.1, this.1.1, this.2.1⟩
  · rw [drL_no h] at h0; simp at h0
theorem dr_more {l : List Rv} (h : rvsOk l) (hl : l.length ≤ 11) (v : Nat) (hv : v ≤ 50000) : drL (l ++ [⟨cmt (v : Int) 5, (v : Int), 5⟩]) 3 = ordL ((dwS l 6 + (v : Int)) % 6) 3 := by
  have h2 : dwOk l 6 := ⟨h, by omega, by omega⟩
  have h3 := (dw_more h2 hl (v := (v : Int)) (by omega) (by omega) 5 (by omega) (by omega)).2
  rw [← drL_draw (m := 3) (by omega) (by omega), fI_three, h3]
theorem ord3 {z : Nat} (h : z < 6) : rnk (ordL (z : Int) 3) = (z : Int) ∧ (ordL (z : Int) 3).length = 3 := by
  have hk : oOk (z : Int) 3 := ⟨by omega, by omega, by rw [fI_three]; omega⟩
  have := ord_ok hk
  exact ⟨this.2.2, by have := this.2.1; omega⟩
/-- the numbers that the first v values give are in the list, no others -/
def seenIn (S : Int) (o : List Int) (v : Nat) : Prop := ∀ c : Nat, c < 6 → ((c : Int) ∈ o ↔ ∃ u : Nat, u < v ∧ (S + (u : Int)) % 6 = (c : Int))
theorem seenIn_zero (S : Int) : seenIn S [] 0 := fun c hc => by simp
theorem seenIn_fresh {S : Int} {o : List Int} {v z : Nat} (h : seenIn S o v) (hv : v < 6) (hz : z < 6) (e : (S + (v : Int)) % 6 = (z : Int)) : decide ((z : Int) ∈ o) = false := by
  rw [decide_eq_false_iff_not]
  intro hb
  obtain ⟨u, hu, e2⟩ := (h z hz).1 hb
  exact mod_far (N := 6) hu hv (e2.trans e.symm)
theorem seenIn_step {S : Int} {o : List Int} {v z : Nat} (h : seenIn S o v) (hz : z < 6) (e : (S + (v : Int)) % 6 = (z : Int)) : seenIn S (o ++ [(z : Int)]) (v + 1) := fun c hc => by
  rw [List.mem_append, h c hc, List.mem_singleton]
  constructor
  · rintro (⟨u, hu, e2⟩ | e2)
    · exact ⟨u, by omega, e2⟩
    · exact ⟨v, by omega, by omega⟩
  · rintro ⟨u, hu, e2⟩
    by_cases huv : u = v
    · subst huv; right; omega
    · left; exact ⟨u, by omega, e2⟩
/-- the program's order of reveals whose order is known -/
theorem dro_is (s : Option Addr) (c k : Nat) (K : List Rv) (m : Int) (O : List Int) (w : World) (hK : Rst w s K) (hk : K.length = k) (hl : k ≤ 1000) (h : drL K m = O) :
    Calls Try.prog 22 #[.slice s k c, .int .i64 m] w (RetList O w) := by
  subst hk h
  exact implDrO s c K m w hK (by omega)
set_option maxRecDepth 100000 in
set_option maxHeartbeats 1600000 in
theorem walkFnDrawOrder (w : World) (sa : Option Addr) (len cap : Nat) (h : Code w sa len cap) (hl : len ≤ maxLen) :
    Calls Try.prog 6 #[.slice sa len cap] w fun e w' => e = .returned (.bool true) ∧ Below w.heap.size w w' := by
  have hl' := hl
  unfold maxLen at hl'
  by_cases hbig : 1048576 < len
  · clear h hl
    go_enter Try.func6, Try.ntmps6
    go_wp2
    go_ret
    exact ⟨rfl, Below.refl _ _⟩
  go_enter Try.func6, Try.ntmps6
  go_wp2_with fail
  refine (dDrawDrawOrder sa len cap w h hl).mono ?_
  rintro e w1 ⟨sl, cl, l, n, rfl, RA, na, n0, n1, E1⟩
  clear h hl hl' hbig
  have HL := hide RA.rst
  clear RA
  have HP1 := hide (fun w2 (e : Ext w1 w2) => implDrO sl cl l n w2 (HL.out.ext e) (by omega))
  have HP2 := hide (fun w2 (e : Ext w1 w2) => specDrO sl cl l n w2 (HL.out.ext e) (by omega))
  have hl12 : ((l.length : Int) == 12) = false := by rw [beq_eq_false_iff_ne]; omega
  have hol := drL_len l n
  by_cases h0 : 0 < (drL l n).length
  · obtain ⟨hok, hvo, hln⟩ := dr_main h0
    have HMR := hide (fun (v : Nat) (hv : v ≤ 50000) => dr_more hok (by omega) v hv)
    have HVO := hide hvo
    have hle : (((drL l n).length : Int) == n) = true := by rw [hln]; simp
    clear hok hvo hln
    obtain ⟨D, hD⟩ : ∃ D, D = drL l n := ⟨_, rfl⟩; rw [← hD] at HP1 HP2 hol h0 HVO hle
    obtain ⟨S, hS⟩ : ∃ S, S = dwS l 6 := ⟨_, rfl⟩; rw [← hS] at HMR
    clear hD hS
    have hne0 : ((D.length : Int) == 0) = false := by rw [beq_eq_false_iff_ne]; omega
    go_wp2_with fail; refine (HP1.out _ (Ext.refl _)).mono ?_; rintro e w2 ⟨s2, c2, rfl, R2, hb2⟩
    have E2 := Ext.of hb2; clear hb2
    go_wp2_with fail; refine (HP2.out _ E2).mono ?_; rintro e w3 ⟨s3, c3, rfl, R3, hb3⟩
    have E3 := Ext.of hb3; clear hb3
    go_wp2_with fail; refine (equalInts_yes s2 s3 D D.length c2 c3 _ (R2.lst.ext E3) R3.lst rfl (by omega)).mono ?_; rintro e w4 ⟨rfl, hb4⟩
    have E4 := Ext.of hb4; clear hb4
    have E24 := E3.trans E4
    have HL2 := hide (R2.lst.ext E24)
    have hc2 := R2.cap
    have E14 := E2.trans E24
    have HL4 := hide (HL.out.ext E14)
    clear R2 R3
    have RS0 := Row.made w4.heap.size w4 (Nat.le_refl _)
    have HR0 := hide RS0
    clear RS0
    go_wp2
    go_loopw [6, 7] (fun u i wr => ∃ (v : Nat) (sb : Option Addr) (cb : Nat) (o : List Int), v ≤ 6 ∧ i = .int .i64 v ∧ u = .slice sb o.length cb ∧ o.length ≤ v ∧ Hid (seenIn S o v) ∧ Row w4.heap.size wr sb cb o ∧ Ext w4 wr) (fun _ i _ => 6 - (intOf i).toNat)
    case atStart => exact ⟨0, _, 0, [], by omega, rfl, rfl, Nat.le_refl _, seenIn_zero S, HR0.out, (Ext.refl w4).alloc _⟩
    case round =>
      obtain ⟨v, sb, cb, o, hv, rfl, rfl, ho, HSE, hR, hE⟩ := hrel
      by_cases hlt : v < 6
      · have hki : (v : Int) < 6 := by omega
        obtain ⟨z, hz⟩ := Int.eq_ofNat_of_zero_le (Int.emod_nonneg (S + (v : Int)) (show (6 : Int) ≠ 0 by omega))
        have hzn : z < 6 := by omega
        have HFR := hide (seenIn_fresh HSE.out hlt hzn hz)
        have HS10 := hide (seenIn_step HSE.out hzn hz)
        have hM := HMR.out v (by omega)
        rw [hz] at hM
        obtain ⟨hr3, hl3⟩ := ord3 hzn
        have HDO := hide (fun s c k w2 (h : Rst w2 s (([] ++ l) ++ [⟨cmt (v : Int) 5, (v : Int), 5⟩])) (hk : (([] ++ l) ++ [(⟨cmt (v : Int) 5, (v : Int), 5⟩ : Rv)]).length = k) => dro_is s c k (l ++ [⟨cmt (v : Int) 5, (v : Int), 5⟩]) 3 (ordL (z : Int) 3) w2 h hk (by rw [← hk]; simp; omega) hM)
        have HRK := hide (fun s c w2 (h : Lst w2 s (ordL (z : Int) 3)) (hc : (ordL (z : Int) 3).length ≤ c) => implRank s c (ordL (z : Int) 3) w2 h (by omega) hc)
        rw [hr3] at HRK
        have HIS := hide (fun w2 (h : Lst w2 sb o) => isIn_any sb cb o.length o (z : Int) w2 h rfl (by omega))
        rw [HFR.out] at HIS
        have HCM := hide (fun w => implCommit (v : Int) 5 w)
        rw [cm_yes (show cOk (v : Int) 5 from ⟨⟨by omega, by omega⟩, by omega, by omega⟩)] at HCM
        obtain ⟨m, hm⟩ : ∃ m, m = cmt (v : Int) 5 := ⟨_, rfl⟩; rw [← hm] at HDO HCM
        obtain ⟨O3, hO3⟩ : ∃ O3, O3 = ordL (z : Int) 3 := ⟨_, rfl⟩; rw [← hO3] at HDO HRK hl3
        clear hM hz hm hr3 hl3 hO3
        have hz0 : ¬ (z : Int) < 0 := by omega
        have hz1 : ¬ (5 : Int) < (z : Int) := by omega
        go_wp2_with fail; refine (HCM.out _).mono ?_; rintro e w' ⟨rfl, rfl⟩
        have X6 := Box.new wr #[.int .i64 m, .int .i64 (v : Int), .int .i64 5] 31
        have HLW := hide (HL4.out.ext (hE.alloc (.cells #[.int .i64 m, .int .i64 (v : Int), .int .i64 5] 31)))
        have HK := hide (fun w2 (e : Ext (wr.alloc (.cells #[.int .i64 m, .int .i64 (v : Int), .int .i64 5] 31)) w2) => (X6.keep e).three)
        clear X6
        go_wp2
        refine wp_region_held_drew (S := (fun w' => w'.cell? ⟨wr.heap.size, 0, none⟩ = some (.int .i64 m) ∧ w'.cell? ⟨wr.heap.size, 1, none⟩ = some (.int .i64 (v : Int)) ∧ w'.cell? ⟨wr.heap.size, 2, none⟩ = some (.int .i64 5))) (by kernel_rfl) (by first | exact HK.out _ ((Ext.refl (wr.alloc (.cells #[.int .i64 m, .int .i64 (v : Int), .int .i64 5] 31))).drew)) (fun hHeld => ?_)
        refine wpAnyH_take (i := 1) (oi := _) (v := ?_) rfl (by kernel_rfl) (by kernel_rfl) (by kernel_rfl) (fun _ _ _ h => h) (Or.inl ⟨by rfl, ?_⟩) (by assumption) ?_
        rotate_left
        · (intro w hSw; (try dsimp only at hSw); (try obtain ⟨hS0, hS1, hS2⟩ := hSw); go_simp; (try with_reducible rfl))
        (try simp only [List.getElem_toArray, List.getElem_cons_succ, List.getElem_cons_zero, Act.put, List.setIfInBounds_toArray, List.set_cons_zero, List.set_cons_succ])
        refine wpAnyH_take (i := 3) (oi := _) (v := ?_) rfl (by kernel_rfl) (by kernel_rfl) (by kernel_rfl) (fun _ _ _ h => h) (Or.inl ⟨by rfl, ?_⟩) (by assumption) ?_
        rotate_left
        · (intro w hSw; (try dsimp only at hSw); (try obtain ⟨hS0, hS1, hS2⟩ := hSw); go_simp; (try with_reducible rfl))
        (try simp only [List.getElem_toArray, List.getElem_cons_succ, List.getElem_cons_zero, Act.put, List.setIfInBounds_toArray, List.set_cons_zero, List.set_cons_succ])
        refine wpAnyH_ready (rs := [0, 4]) (by kernel_rfl) (by simp) ?_
        refine AllReadyH.cons (o := _) rfl (fun K hK => ?_) ?_
        · go_simp
          refine hK.out _ _ (HK.out _ (((Ext.refl (wr.alloc (.cells #[.int .i64 m, .int .i64 (v : Int), .int .i64 5] 31))).drew).alloc (.cells #[] 31))) (fun hHeld => ?_); clear hK K
          (try simp only [List.getElem_toArray, List.getElem_cons_succ, List.getElem_cons_zero, Act.put, List.setIfInBounds_toArray, List.set_cons_zero, List.set_cons_succ])
          have R0 := rowV_madeAt ((Ext.refl (wr.alloc (.cells #[.int .i64 m, .int .i64 (v : Int), .int .i64 5] 31))).drew) (wr.heap.size + 1) (by simp)
          have hz0 : (wr.alloc (.cells #[.int .i64 m, .int .i64 (v : Int), .int .i64 5] 31)).heap.size ≤ wr.heap.size + 1 := by simp
          refine wpAnyH_ready (rs := [2, 4]) (by kernel_rfl) (by simp) ?_
          refine AllReadyH.cons (o := _) rfl (fun K hK => ?_) ?_
          · refine step_append_rvs (n := 0) (m := l.length) (l1 := []) (l := l) (s := .tmp 51) (x := .tmp 52) (by rfl) (by rfl) (by rfl) (by rfl) rfl rfl R0 (by omega) (by omega) (by first | (simp; done) | (simp; omega)) (HLW.out.ext (((Ext.refl (wr.alloc (.cells #[.int .i64 m, .int .i64 (v : Int), .int .i64 5] 31))).drew).alloc (.cells #[] 31))) ?_; intro sg c3 wA R3 hb3 hc3
            refine hK.out _ _ (HK.out _ (((((Ext.refl (wr.alloc (.cells #[.int .i64 m, .int .i64 (v : Int), .int .i64 5] 31))).drew).alloc (.cells #[] 31))).below hb3 hz0)) (fun hHeld => ?_); clear hK K
            (try simp only [List.getElem_toArray, List.getElem_cons_succ, List.getElem_cons_zero, Act.put, List.setIfInBounds_toArray, List.set_cons_zero, List.set_cons_succ])
            have hz3 := hb3.size
            try have X4 := X4.lies hc3 (by first | (simp; done) | (simp; omega))
            refine wpAnyH_ready (rs := [4]) (by kernel_rfl) (by simp) ?_
            refine AllReadyH.cons (o := _) rfl (fun K hK => ?_) AllReadyH.nil
            go_simp
            refine hK.out _ _ (HK.out _ ((((((Ext.refl (wr.alloc (.cells #[.int .i64 m, .int .i64 (v : Int), .int .i64 5] 31))).drew).alloc (.cells #[] 31))).below hb3 hz0).alloc (.cells #[.int .i64 m, .int .i64 (v : Int), .int .i64 5] 31))) (fun hHeld => ?_); clear hK K
            (try simp only [List.getElem_toArray, List.getElem_cons_succ, List.getElem_cons_zero, Act.put, List.setIfInBounds_toArray, List.set_cons_zero, List.set_cons_succ])
            have X4 := box_madeAt (((((Ext.refl (wr.alloc (.cells #[.int .i64 m, .int .i64 (v : Int), .int .i64 5] 31))).drew).alloc (.cells #[] 31))).below hb3 hz0) (wA.heap.size) #[.int .i64 m, .int .i64 (v : Int), .int .i64 5] 31 rfl
            have R3 := R3.ext ((Ext.refl _).alloc (.cells #[.int .i64 m, .int .i64 (v : Int), .int .i64 5] 31))
            refine wpAnyH_ready (rs := [5]) (by kernel_rfl) (by simp) ?_
            refine AllReadyH.cons (o := _) rfl (fun K hK => ?_) AllReadyH.nil
            (first | refine step_append_rv (n := 0 + l.length) (ll := [] ++ l) (s := .tmp 53) (x := .tmp 55) (v := ⟨m, (v : Int), 5⟩) (by rfl) (by rfl) (by rfl) (by rfl) (by simp) X4 R3 (by omega) (by first | (simp at hz3 ⊢; omega) | (simp at hz3; omega)) ?_ | refine step_append_rv (n := l.length) (ll := [] ++ l) (s := .tmp 53) (x := .tmp 55) (v := ⟨m, (v : Int), 5⟩) (by rfl) (by rfl) (by rfl) (by rfl) (by simp) X4 R3 (by omega) (by first | (simp at hz3 ⊢; omega) | (simp at hz3; omega)) ?_); intro g5 c5 wB R5 hb5
            refine hK.out _ _ (HK.out _ ((((((((Ext.refl (wr.alloc (.cells #[.int .i64 m, .int .i64 (v : Int), .int .i64 5] 31))).drew).alloc (.cells #[] 31))).below hb3 hz0).alloc (.cells #[.int .i64 m, .int .i64 (v : Int), .int .i64 5] 31))).below hb5 hz0)) (fun hHeld => ?_); clear hK K
            (try simp only [List.getElem_toArray, List.getElem_cons_succ, List.getElem_cons_zero, Act.put, List.setIfInBounds_toArray, List.set_cons_zero, List.set_cons_succ])
            refine wpAnyH_ready (rs := [6]) (by kernel_rfl) (by simp) ?_
            refine AllReadyH.cons (o := _) rfl (fun K hK => ?_) AllReadyH.nil
            go_simp
            refine (HDO.out _ _ (l.length + 1) _ R5.rst (by simp)).mono ?_; rintro e w7 ⟨s7, c7, rfl, R7, hb7⟩
            refine hK.out _ _ (HK.out _ (((((((((Ext.refl (wr.alloc (.cells #[.int .i64 m, .int .i64 (v : Int), .int .i64 5] 31))).drew).alloc (.cells #[] 31))).below hb3 hz0).alloc (.cells #[.int .i64 m, .int .i64 (v : Int), .int .i64 5] 31))).below hb5 hz0).trans (Ext.of hb7))) (fun hHeld => ?_); clear hK K
            (try simp only [List.getElem_toArray, List.getElem_cons_succ, List.getElem_cons_zero, Act.put, List.setIfInBounds_toArray, List.set_cons_zero, List.set_cons_succ])
            have hc7 := R7.cap
            refine wpAnyH_ready (rs := [7]) (by kernel_rfl) (by simp) ?_
            refine AllReadyH.cons (o := _) rfl (fun K hK => ?_) AllReadyH.nil
            go_simp
            refine (HRK.out s7 c7 _ R7.lst hc7).mono ?_; rintro e w8 ⟨rfl, E8⟩
            refine hK.out _ _ (HK.out _ ((((((((((Ext.refl (wr.alloc (.cells #[.int .i64 m, .int .i64 (v : Int), .int .i64 5] 31))).drew).alloc (.cells #[] 31))).below hb3 hz0).alloc (.cells #[.int .i64 m, .int .i64 (v : Int), .int .i64 5] 31))).below hb5 hz0).trans (Ext.of hb7)).trans E8)) (fun hHeld => ?_); clear hK K
            (try simp only [List.getElem_toArray, List.getElem_cons_succ, List.getElem_cons_zero, Act.put, List.setIfInBounds_toArray, List.set_cons_zero, List.set_cons_succ])
            refine wpAnyH_ready (rs := [8]) (by kernel_rfl) (by simp) ?_
            refine AllReadyH.cons (o := _) rfl (fun K hK => ?_) AllReadyH.nil
            go_simp
            refine hK.out _ _ (HK.out _ ((((((((((Ext.refl (wr.alloc (.cells #[.int .i64 m, .int .i64 (v : Int), .int .i64 5] 31))).drew).alloc (.cells #[] 31))).below hb3 hz0).alloc (.cells #[.int .i64 m, .int .i64 (v : Int), .int .i64 5] 31))).below hb5 hz0).trans (Ext.of hb7)).trans E8)) (fun hHeld => ?_); clear hK K
            (try simp only [List.getElem_toArray, List.getElem_cons_succ, List.getElem_cons_zero, Act.put, List.setIfInBounds_toArray, List.set_cons_zero, List.set_cons_succ])
            refine wpAnyH_done (by kernel_rfl) ?_ _
            have E9 := (((((((((Ext.refl (wr.alloc (.cells #[.int .i64 m, .int .i64 (v : Int), .int .i64 5] 31))).drew).alloc (.cells #[] 31))).below hb3 hz0).alloc (.cells #[.int .i64 m, .int .i64 (v : Int), .int .i64 5] 31))).below hb5 hz0).trans (Ext.of hb7)).trans E8
            have hE9 := (hE.alloc (.cells #[.int .i64 m, .int .i64 (v : Int), .int .i64 5] 31)).trans E9
            have R9 := hR.ext ((Ext.refl wr).alloc (.cells #[.int .i64 m, .int .i64 (v : Int), .int .i64 5] 31) |>.trans E9)
            clear HK
            go_wp2_with fail; refine (HIS.out _ R9.lst).mono ?_; rintro e w' ⟨rfl, rfl⟩
            go_wp2_with (first | (at_builtin; refine append_int rfl (.tmp 70) (.tmp 72) rfl w4.heap.size w8 sb cb o z _ rfl rfl R9 (by omega) hE9.size ?_; intro g3 cap3 wC R3 hb3; have hE10 := hide (hE9.below hb3 (Nat.le_refl _)); clear hb3))
            go_wp2
            go_roundw
            case rel => exact ⟨v + 1, _, _, o ++ [(z : Int)], by omega, by go_num, by rw [len_snocR o], by rw [← len_snocR o]; omega, HS10, R3, hE10.out⟩
            case measure => (first | (simp [intOf]; done) | (simp [intOf]; omega))
          refine AllReadyH.cons (o := _) rfl (fun K hK => ?_) AllReadyH.nil
          go_simp
          refine hK.out _ _ (HK.out _ ((((Ext.refl (wr.alloc (.cells #[.int .i64 m, .int .i64 (v : Int), .int .i64 5] 31))).drew).alloc (.cells #[] 31)).alloc (.cells #[.int .i64 m, .int .i64 (v : Int), .int .i64 5] 31))) (fun hHeld => ?_); clear hK K
          (try simp only [List.getElem_toArray, List.getElem_cons_succ, List.getElem_cons_zero, Act.put, List.setIfInBounds_toArray, List.set_cons_zero, List.set_cons_succ])
          have X4 := box_madeAt (((Ext.refl (wr.alloc (.cells #[.int .i64 m, .int .i64 (v : Int), .int .i64 5] 31))).drew).alloc (.cells #[] 31)) (wr.heap.size + 2) #[.int .i64 m, .int .i64 (v : Int), .int .i64 5] 31 (by simp)
          have R0 := R0.ext ((Ext.refl _).alloc (.cells #[.int .i64 m, .int .i64 (v : Int), .int .i64 5] 31))
          refine wpAnyH_ready (rs := [2]) (by kernel_rfl) (by simp) ?_
          refine AllReadyH.cons (o := _) rfl (fun K hK => ?_) AllReadyH.nil
          refine step_append_rvs (n := 0) (m := l.length) (l1 := []) (l := l) (s := .tmp 51) (x := .tmp 52) (by rfl) (by rfl) (by rfl) (by rfl) rfl rfl R0 (by omega) (by omega) (by first | (simp; done) | (simp; omega)) (HLW.out.ext ((((Ext.refl (wr.alloc (.cells #[.int .i64 m, .int .i64 (v : Int), .int .i64 5] 31))).drew).alloc (.cells #[] 31)).alloc (.cells #[.int .i64 m, .int .i64 (v : Int), .int .i64 5] 31))) ?_; intro sg c3 wA R3 hb3 hc3
          refine hK.out _ _ (HK.out _ ((((((Ext.refl (wr.alloc (.cells #[.int .i64 m, .int .i64 (v : Int), .int .i64 5] 31))).drew).alloc (.cells #[] 31)).alloc (.cells #[.int .i64 m, .int .i64 (v : Int), .int .i64 5] 31))).below hb3 hz0)) (fun hHeld => ?_); clear hK K
          (try simp only [List.getElem_toArray, List.getElem_cons_succ, List.getElem_cons_zero, Act.put, List.setIfInBounds_toArray, List.set_cons_zero, List.set_cons_succ])
          have hz3 := hb3.size
          try have X4 := X4.lies hc3 (by first | (simp; done) | (simp; omega))
          refine wpAnyH_ready (rs := [5]) (by kernel_rfl) (by simp) ?_
          refine AllReadyH.cons (o := _) rfl (fun K hK => ?_) AllReadyH.nil
          (first | refine step_append_rv (n := 0 + l.length) (ll := [] ++ l) (s := .tmp 53) (x := .tmp 55) (v := ⟨m, (v : Int), 5⟩) (by rfl) (by rfl) (by rfl) (by rfl) (by simp) X4 R3 (by omega) (by first | (simp at hz3 ⊢; omega) | (simp at hz3; omega)) ?_ | refine step_append_rv (n := l.length) (ll := [] ++ l) (s := .tmp 53) (x := .tmp 55) (v := ⟨m, (v : Int), 5⟩) (by rfl) (by rfl) (by rfl) (by rfl) (by simp) X4 R3 (by omega) (by first | (simp at hz3 ⊢; omega) | (simp at hz3; omega)) ?_); intro g5 c5 wB R5 hb5
          refine hK.out _ _ (HK.out _ ((((((((Ext.refl (wr.alloc (.cells #[.int .i64 m, .int .i64 (v : Int), .int .i64 5] 31))).drew).alloc (.cells #[] 31)).alloc (.cells #[.int .i64 m, .int .i64 (v : Int), .int .i64 5] 31))).below hb3 hz0)).below hb5 hz0)) (fun hHeld => ?_); clear hK K
          (try simp only [List.getElem_toArray, List.getElem_cons_succ, List.getElem_cons_zero, Act.put, List.setIfInBounds_toArray, List.set_cons_zero, List.set_cons_succ])
          refine wpAnyH_ready (rs := [6]) (by kernel_rfl) (by simp) ?_
          refine AllReadyH.cons (o := _) rfl (fun K hK => ?_) AllReadyH.nil
          go_simp
          refine (HDO.out _ _ (l.length + 1) _ R5.rst (by simp)).mono ?_; rintro e w7 ⟨s7, c7, rfl, R7, hb7⟩
          refine hK.out _ _ (HK.out _ (((((((((Ext.refl (wr.alloc (.cells #[.int .i64 m, .int .i64 (v : Int), .int .i64 5] 31))).drew).alloc (.cells #[] 31)).alloc (.cells #[.int .i64 m, .int .i64 (v : Int), .int .i64 5] 31))).below hb3 hz0)).below hb5 hz0).trans (Ext.of hb7))) (fun hHeld => ?_); clear hK K
          (try simp only [List.getElem_toArray, List.getElem_cons_succ, List.getElem_cons_zero, Act.put, List.setIfInBounds_toArray, List.set_cons_zero, List.set_cons_succ])
          have hc7 := R7.cap
          refine wpAnyH_ready (rs := [7]) (by kernel_rfl) (by simp) ?_
          refine AllReadyH.cons (o := _) rfl (fun K hK => ?_) AllReadyH.nil
          go_simp
          refine (HRK.out s7 c7 _ R7.lst hc7).mono ?_; rintro e w8 ⟨rfl, E8⟩
          refine hK.out _ _ (HK.out _ ((((((((((Ext.refl (wr.alloc (.cells #[.int .i64 m, .int .i64 (v : Int), .int .i64 5] 31))).drew).alloc (.cells #[] 31)).alloc (.cells #[.int .i64 m, .int .i64 (v : Int), .int .i64 5] 31))).below hb3 hz0)).below hb5 hz0).trans (Ext.of hb7)).trans E8)) (fun hHeld => ?_); clear hK K
          (try simp only [List.getElem_toArray, List.getElem_cons_succ, List.getElem_cons_zero, Act.put, List.setIfInBounds_toArray, List.set_cons_zero, List.set_cons_succ])
          refine wpAnyH_ready (rs := [8]) (by kernel_rfl) (by simp) ?_
          refine AllReadyH.cons (o := _) rfl (fun K hK => ?_) AllReadyH.nil
          go_simp
          refine hK.out _ _ (HK.out _ ((((((((((Ext.refl (wr.alloc (.cells #[.int .i64 m, .int .i64 (v : Int), .int .i64 5] 31))).drew).alloc (.cells #[] 31)).alloc (.cells #[.int .i64 m, .int .i64 (v : Int), .int .i64 5] 31))).below hb3 hz0)).below hb5 hz0).trans (Ext.of hb7)).trans E8)) (fun hHeld => ?_); clear hK K
          (try simp only [List.getElem_toArray, List.getElem_cons_succ, List.getElem_cons_zero, Act.put, List.setIfInBounds_toArray, List.set_cons_zero, List.set_cons_succ])
          refine wpAnyH_done (by kernel_rfl) ?_ _
          have E9 := (((((((((Ext.refl (wr.alloc (.cells #[.int .i64 m, .int .i64 (v : Int), .int .i64 5] 31))).drew).alloc (.cells #[] 31)).alloc (.cells #[.int .i64 m, .int .i64 (v : Int), .int .i64 5] 31))).below hb3 hz0)).below hb5 hz0).trans (Ext.of hb7)).trans E8
          have hE9 := (hE.alloc (.cells #[.int .i64 m, .int .i64 (v : Int), .int .i64 5] 31)).trans E9
          have R9 := hR.ext ((Ext.refl wr).alloc (.cells #[.int .i64 m, .int .i64 (v : Int), .int .i64 5] 31) |>.trans E9)
          clear HK
          go_wp2_with fail; refine (HIS.out _ R9.lst).mono ?_; rintro e w' ⟨rfl, rfl⟩
          go_wp2_with (first | (at_builtin; refine append_int rfl (.tmp 70) (.tmp 72) rfl w4.heap.size w8 sb cb o z _ rfl rfl R9 (by omega) hE9.size ?_; intro g3 cap3 wC R3 hb3; have hE10 := hide (hE9.below hb3 (Nat.le_refl _)); clear hb3))
          go_wp2
          go_roundw
          case rel => exact ⟨v + 1, _, _, o ++ [(z : Int)], by omega, by go_num, by rw [len_snocR o], by rw [← len_snocR o]; omega, HS10, R3, hE10.out⟩
          case measure => (first | (simp [intOf]; done) | (simp [intOf]; omega))
        refine AllReadyH.cons (o := _) rfl (fun K hK => ?_) AllReadyH.nil
        go_simp
        refine hK.out _ _ (HK.out _ (((Ext.refl (wr.alloc (.cells #[.int .i64 m, .int .i64 (v : Int), .int .i64 5] 31))).drew).alloc (.cells #[.int .i64 m, .int .i64 (v : Int), .int .i64 5] 31))) (fun hHeld => ?_); clear hK K
        (try simp only [List.getElem_toArray, List.getElem_cons_succ, List.getElem_cons_zero, Act.put, List.setIfInBounds_toArray, List.set_cons_zero, List.set_cons_succ])
        have X4 := box_madeAt ((Ext.refl (wr.alloc (.cells #[.int .i64 m, .int .i64 (v : Int), .int .i64 5] 31))).drew) (wr.heap.size + 1) #[.int .i64 m, .int .i64 (v : Int), .int .i64 5] 31 (by simp)
        refine wpAnyH_ready (rs := [0]) (by kernel_rfl) (by simp) ?_
        refine AllReadyH.cons (o := _) rfl (fun K hK => ?_) AllReadyH.nil
        go_simp
        refine hK.out _ _ (HK.out _ ((((Ext.refl (wr.alloc (.cells #[.int .i64 m, .int .i64 (v : Int), .int .i64 5] 31))).drew).alloc (.cells #[.int .i64 m, .int .i64 (v : Int), .int .i64 5] 31)).alloc (.cells #[] 31))) (fun hHeld => ?_); clear hK K
        (try simp only [List.getElem_toArray, List.getElem_cons_succ, List.getElem_cons_zero, Act.put, List.setIfInBounds_toArray, List.set_cons_zero, List.set_cons_succ])
        have R0 := rowV_madeAt (((Ext.refl (wr.alloc (.cells #[.int .i64 m, .int .i64 (v : Int), .int .i64 5] 31))).drew).alloc (.cells #[.int .i64 m, .int .i64 (v : Int), .int .i64 5] 31)) (wr.heap.size + 2) (by simp)
        have hz0 : (wr.alloc (.cells #[.int .i64 m, .int .i64 (v : Int), .int .i64 5] 31)).heap.size ≤ wr.heap.size + 2 := by simp
        have X4 := X4.push (.cells #[] 31)
        refine wpAnyH_ready (rs := [2]) (by kernel_rfl) (by simp) ?_
        refine AllReadyH.cons (o := _) rfl (fun K hK => ?_) AllReadyH.nil
        refine step_append_rvs (n := 0) (m := l.length) (l1 := []) (l := l) (s := .tmp 51) (x := .tmp 52) (by rfl) (by rfl) (by rfl) (by rfl) rfl rfl R0 (by omega) (by omega) (by first | (simp; done) | (simp; omega)) (HLW.out.ext ((((Ext.refl (wr.alloc (.cells #[.int .i64 m, .int .i64 (v : Int), .int .i64 5] 31))).drew).alloc (.cells #[.int .i64 m, .int .i64 (v : Int), .int .i64 5] 31)).alloc (.cells #[] 31))) ?_; intro sg c3 wA R3 hb3 hc3
        refine hK.out _ _ (HK.out _ ((((((Ext.refl (wr.alloc (.cells #[.int .i64 m, .int .i64 (v : Int), .int .i64 5] 31))).drew).alloc (.cells #[.int .i64 m, .int .i64 (v : Int), .int .i64 5] 31)).alloc (.cells #[] 31))).below hb3 hz0)) (fun hHeld => ?_); clear hK K
        (try simp only [List.getElem_toArray, List.getElem_cons_succ, List.getElem_cons_zero, Act.put, List.setIfInBounds_toArray, List.set_cons_zero, List.set_cons_succ])
        have hz3 := hb3.size
        try have X4 := X4.lies hc3 (by first | (simp; done) | (simp; omega))
        refine wpAnyH_ready (rs := [5]) (by kernel_rfl) (by simp) ?_
        refine AllReadyH.cons (o := _) rfl (fun K hK => ?_) AllReadyH.nil
        (first | refine step_append_rv (n := 0 + l.length) (ll := [] ++ l) (s := .tmp 53) (x := .tmp 55) (v := ⟨m, (v : Int), 5⟩) (by rfl) (by rfl) (by rfl) (by rfl) (by simp) X4 R3 (by omega) (by first | (simp at hz3 ⊢; omega) | (simp at hz3; omega)) ?_ | refine step_append_rv (n := l.length) (ll := [] ++ l) (s := .tmp 53) (x := .tmp 55) (v := ⟨m, (v : Int), 5⟩) (by rfl) (by rfl) (by rfl) (by rfl) (by simp) X4 R3 (by omega) (by first | (simp at hz3 ⊢; omega) | (simp at hz3; omega)) ?_); intro g5 c5 wB R5 hb5
        refine hK.out _ _ (HK.out _ ((((((((Ext.refl (wr.alloc (.cells #[.int .i64 m, .int .i64 (v : Int), .int .i64 5] 31))).drew).alloc (.cells #[.int .i64 m, .int .i64 (v : Int), .int .i64 5] 31)).alloc (.cells #[] 31))).below hb3 hz0)).below hb5 hz0)) (fun hHeld => ?_); clear hK K
        (try simp only [List.getElem_toArray, List.getElem_cons_succ, List.getElem_cons_zero, Act.put, List.setIfInBounds_toArray, List.set_cons_zero, List.set_cons_succ])
        refine wpAnyH_ready (rs := [6]) (by kernel_rfl) (by simp) ?_
        refine AllReadyH.cons (o := _) rfl (fun K hK => ?_) AllReadyH.nil
        go_simp
        refine (HDO.out _ _ (l.length + 1) _ R5.rst (by simp)).mono ?_; rintro e w7 ⟨s7, c7, rfl, R7, hb7⟩
        refine hK.out _ _ (HK.out _ (((((((((Ext.refl (wr.alloc (.cells #[.int .i64 m, .int .i64 (v : Int), .int .i64 5] 31))).drew).alloc (.cells #[.int .i64 m, .int .i64 (v : Int), .int .i64 5] 31)).alloc (.cells #[] 31))).below hb3 hz0)).below hb5 hz0).trans (Ext.of hb7))) (fun hHeld => ?_); clear hK K
        (try simp only [List.getElem_toArray, List.getElem_cons_succ, List.getElem_cons_zero, Act.put, List.setIfInBounds_toArray, List.set_cons_zero, List.set_cons_succ])
        have hc7 := R7.cap
        refine wpAnyH_ready (rs := [7]) (by kernel_rfl) (by simp) ?_
        refine AllReadyH.cons (o := _) rfl (fun K hK => ?_) AllReadyH.nil
        go_simp
        refine (HRK.out s7 c7 _ R7.lst hc7).mono ?_; rintro e w8 ⟨rfl, E8⟩
        refine hK.out _ _ (HK.out _ ((((((((((Ext.refl (wr.alloc (.cells #[.int .i64 m, .int .i64 (v : Int), .int .i64 5] 31))).drew).alloc (.cells #[.int .i64 m, .int .i64 (v : Int), .int .i64 5] 31)).alloc (.cells #[] 31))).below hb3 hz0)).below hb5 hz0).trans (Ext.of hb7)).trans E8)) (fun hHeld => ?_); clear hK K
        (try simp only [List.getElem_toArray, List.getElem_cons_succ, List.getElem_cons_zero, Act.put, List.setIfInBounds_toArray, List.set_cons_zero, List.set_cons_succ])
        refine wpAnyH_ready (rs := [8]) (by kernel_rfl) (by simp) ?_
        refine AllReadyH.cons (o := _) rfl (fun K hK => ?_) AllReadyH.nil
        go_simp
        refine hK.out _ _ (HK.out _ ((((((((((Ext.refl (wr.alloc (.cells #[.int .i64 m, .int .i64 (v : Int), .int .i64 5] 31))).drew).alloc (.cells #[.int .i64 m, .int .i64 (v : Int), .int .i64 5] 31)).alloc (.cells #[] 31))).below hb3 hz0)).below hb5 hz0).trans (Ext.of hb7)).trans E8)) (fun hHeld => ?_); clear hK K
        (try simp only [List.getElem_toArray, List.getElem_cons_succ, List.getElem_cons_zero, Act.put, List.setIfInBounds_toArray, List.set_cons_zero, List.set_cons_succ])
        refine wpAnyH_done (by kernel_rfl) ?_ _
        have E9 := (((((((((Ext.refl (wr.alloc (.cells #[.int .i64 m, .int .i64 (v : Int), .int .i64 5] 31))).drew).alloc (.cells #[.int .i64 m, .int .i64 (v : Int), .int .i64 5] 31)).alloc (.cells #[] 31))).below hb3 hz0)).below hb5 hz0).trans (Ext.of hb7)).trans E8
        have hE9 := (hE.alloc (.cells #[.int .i64 m, .int .i64 (v : Int), .int .i64 5] 31)).trans E9
        have R9 := hR.ext ((Ext.refl wr).alloc (.cells #[.int .i64 m, .int .i64 (v : Int), .int .i64 5] 31) |>.trans E9)
        clear HK
        go_wp2_with fail; refine (HIS.out _ R9.lst).mono ?_; rintro e w' ⟨rfl, rfl⟩
        go_wp2_with (first | (at_builtin; refine append_int rfl (.tmp 70) (.tmp 72) rfl w4.heap.size w8 sb cb o z _ rfl rfl R9 (by omega) hE9.size ?_; intro g3 cap3 wC R3 hb3; have hE10 := hide (hE9.below hb3 (Nat.le_refl _)); clear hb3))
        go_wp2
        go_roundw
        case rel => exact ⟨v + 1, _, _, o ++ [(z : Int)], by omega, by go_num, by rw [len_snocR o], by rw [← len_snocR o]; omega, HS10, R3, hE10.out⟩
        case measure => (first | (simp [intOf]; done) | (simp [intOf]; omega))
      · have hki : decide ((v : Int) < 6) = false := decide_eq_false (by omega)
        go_wp2_with fail; refine (Same.eqB (implVO s2 c2 D _ (HL2.out.ext hE) (by omega) hc2) HVO.out).mono ?_; rintro e w' ⟨rfl, rfl⟩
        go_wp2
        go_ret
        exact ⟨rfl, E1.trans (E14.trans hE)⟩
  · have hn0 : drL l n = [] := List.length_eq_zero_iff.1 (by omega)
    rw [hn0] at HP1 HP2
    clear hn0 h0 hol
    go_wp2_with fail; refine (HP1.out _ (Ext.refl _)).mono ?_; rintro e w2 ⟨s2, c2, rfl, R2, hb2⟩
    have E2 := Ext.of hb2; clear hb2
    go_wp2_with fail; refine (HP2.out _ E2).mono ?_; rintro e w3 ⟨s3, c3, rfl, R3, hb3⟩
    have E3 := Ext.of hb3; clear hb3
    go_wp2_with fail; refine (equalInts_yes s2 s3 [] 0 c2 c3 _ (.inl rfl) (.inl rfl) rfl (by omega)).mono ?_; rintro e w4 ⟨rfl, hb4⟩
    have E4 := Ext.of hb4; clear hb4
    have E14 := E2.trans (E3.trans E4)
    go_wp2_with fail; refine (HP2.out _ E14).mono ?_; rintro e w5 ⟨s5, c5, rfl, R5, hb5⟩
    have E5 := Ext.of hb5; clear hb5
    go_wp2_with fail; refine (equalInts_yes s2 s5 [] 0 c2 c5 _ (.inl rfl) (.inl rfl) rfl (by omega)).mono ?_; rintro e w6 ⟨rfl, hb6⟩
    have E6 := Ext.of hb6; clear hb6
    go_wp2
    go_ret
    exact ⟨rfl, E1.trans (E14.trans (E5.trans E6))⟩
end Go.Proofs.Ytgmhodmgbhpdaad
