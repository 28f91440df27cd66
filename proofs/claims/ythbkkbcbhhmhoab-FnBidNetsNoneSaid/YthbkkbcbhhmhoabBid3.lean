/- Chapter 3: what each member gets in a round: the model's contracts. -/
import Derived.Test.YthbkkbcbhhmhoabBid2
namespace Go.Proofs.Ythbkkbcbhhmhoab
open Go.ChangeShapes Go.WideShapes Go.ChangeAt Go.RowKit Go.Joins Go.Sort
set_option linter.unusedVariables false

theorem win_neg (l : List Int) (d : Nat → Bool) : ∀ k, win l d k < 0 ↔ ∀ i, i < k → d i = true := by
  intro k
  induction k with
  | zero => simp [win]
  | succ k ih =>
    constructor
    · intro h
      have hd : d k = true := by
        by_cases hd : d k = true
        · exact hd
        · rw [Bool.not_eq_true] at hd
          by_cases h0 : win l d k < 0
          · rw [win_yes hd (.inl h0)] at h; omega
          · by_cases h1 : l.getD (win l d k).toNat 0 < l.getD k 0
            · rw [win_yes hd (.inr h1)] at h; omega
            · rw [win_no (by rintro ⟨_, h | h⟩ <;> omega)] at h; omega
      rw [win_no (by rw [hd]; simp), ih] at h
      intro i hi
      by_cases e : i = k
      · rw [e]; exact hd
      · exact h i (by omega)
    · intro h
      rw [win_no (by rw [h k (by omega)]; simp), ih]
      exact fun i hi => h i (by omega)
theorem done_len {m : List Int} {n : Nat} (h : vmB m n = true) : m.length = n ↔ ∀ i, i < n → inD m i = true := by
  obtain ⟨h1, h2⟩ := vmB_iff.1 h
  have hf := full_len h2 h1
  constructor
  · intro e i hi; exact decide_eq_true (hf.2 e i hi)
  · intro ha
    have := cover_len (l := m) (n := n) (fun k hk => of_decide_eq_true (ha k hk))
    omega
theorem win_done {l m : List Int} (h : vmB m l.length = true) : win l (inD m) l.length < 0 ↔ m.length = l.length := by
  rw [win_neg, done_len h]
/-- member by member -/
def payS (n : Nat) (q : Int) (k : Nat) (g : Int) : Nat → List Int
  | 0 => (zeros n).set k (q - g)
  | i + 1 => if i = k then payS n q k g i else (payS n q k g i).set i (prt g ((n : Int) - 1) (if i < k then i else i - 1))
theorem payS_len (n : Nat) (q : Int) (k : Nat) (g : Int) (i : Nat) : (payS n q k g i).length = n := by
  induction i with
  | zero => show ((zeros n).set _ _).length = n; rw [List.length_set, zeros_len]
  | succ i ih => unfold payS; split
                 · exact ih
                 · rw [List.length_set, ih]
theorem payS_at (n : Nat) (q : Int) (k : Nat) (g : Int) (hk : k < n) : ∀ i, i ≤ n → ∀ j, j < n → (payS n q k g i).getD j 0 = if j = k then q - g else if j < i then prt g ((n : Int) - 1) (if j < k then j else j - 1) else 0 := by
  intro i
  induction i with
  | zero =>
    intro _ j hj
    show ((zeros n).set _ _).getD j 0 = _
    rw [set_at _ _ _ _ (by rw [zeros_len]; exact hk)]
    by_cases e : j = k
    · rw [if_pos e, if_pos e]
    · rw [if_neg e, if_neg e, zeros_at, if_neg (Nat.not_lt_zero _)]
  | succ i ih =>
    intro hi j hj
    have h1 := ih (by omega) j hj
    unfold payS
    by_cases e : i = k
    · rw [if_pos e, h1]
      by_cases e2 : j = k
      · rw [if_pos e2, if_pos e2]
      · rw [if_neg e2, if_neg e2]
        by_cases h2 : j < i
        · rw [if_pos h2, if_pos (show j < i + 1 by omega)]
        · rw [if_neg h2, if_neg (show ¬ j < i + 1 by omega)]
    · rw [if_neg e, set_at _ _ _ _ (by rw [payS_len]; omega), h1]
      by_cases e2 : j = i
      · subst e2; rw [if_pos rfl, if_neg e, if_pos (Nat.lt_succ_self _)]
      · rw [if_neg e2]
        by_cases h2 : j < i
        · rw [if_pos h2, if_pos (show j < i + 1 by omega)]
        · rw [if_neg h2, if_neg (show ¬ j < i + 1 by omega)]
theorem payS_full {n : Nat} {q : Int} {k : Nat} {g : Int} (hk : k < n) : payS n q k g n = payT n q k g := by
  apply getD_ext (by rw [payS_len, payT_len])
  intro j hj
  rw [payS_len] at hj
  rw [payS_at n q k g hk _ (Nat.le_refl _) j hj, payT_at _ _ _ _ _ hj, if_pos hj]
theorem payT_one {q : Int} {l : List Int} {k : Nat} (h : l.length = 1) (hk : k < l.length) (b : Int) : (((zeros l.length).set k b).set k q) = payT l.length q k (gift l k) := by
  have hg : gift l k = 0 := if_pos h
  obtain rfl : k = 0 := by omega
  rw [hg, h]; simp [zeros, payT]
theorem gift_more {l : List Int} {k : Nat} (h : l.length ≠ 1) : gift l k = max 0 (l.getD k 0) := if_neg h

set_option maxRecDepth 100000 in
set_option maxHeartbeats 1000000 in
theorem specPayL (sa : Option Addr) (cap n : Nat) (l : List Int) (p : Int) (sm : Option Addr) (cm nm : Nat) (m : List Int) (k : Nat) (w : World) (h : Lst w sa l) (hn : l.length = n) (hm : Lst w sm m) (hnm : m.length = nm) (hml : nm ≤ 2000000) (hok : bok l p) (hw : win l (inD m) l.length = (k : Int)) :
    Calls Try.prog 82 #[.slice sa n cap, .int .i64 p, .slice sm nm cm] w (RetList (payT l.length ((l.length : Int) * p) k (gift l k)) w) := by
  subst hn
  have H := hide h; clear h
  have HM := hide hm; clear hm
  have hkl : k < l.length := by have := win_bd l (inD m) l.length; omega
  have hb := pot_bd hok.1
  have hl12 := hok.1.1
  have hx := hok.2 _ (getD_mem hkl)
  have HW := hide (fun w1 (e : Ext w w1) => specWin sa cap l.length l sm cm nm m w1 (H.out.ext e) rfl (by omega) (HM.out.ext e) hnm hml)
  rw [hw] at HW
  have hmk := run_makeInts l.length (by omega)
  have HA0 := hide (Arr.new w (zeros l.length))
  have HE0 := hide ((Ext.refl w).alloc (.cells (ints (zeros l.length)) 3))
  have HL := hide fun (q g : Int) => payT_len l.length q k g
  have hwq := pot_bd hok.1
  clear hok hw
  obtain ⟨g0, off, rfl, hg, c0⟩ := H.out.at hkl
  have HC0 := hide c0
  have HX1 : Hid (l.length ≠ 1 → gift l k = max 0 (l.getD k 0)) := hide gift_more
  have HX2 : Hid (l.length = 1 → ∀ (q b : Int), (((zeros l.length).set k b).set k q) = payT l.length q k (gift l k)) := hide (fun h q b => payT_one h hkl b)
  have hxb : l.getD k 0 ≤ 120000 := by omega
  have HXX := hide hx
  have HNM := hide hnm
  clear hnm c0 hx
  by_cases hone : l.length = 1
  · by_cases hsg : 0 < l.getD k 0
    · -- True True
      have hd1 : ((l.length : Int) == 1) = true := by rw [beq_iff_eq]; omega
      have HONE := hide hone; clear hone
      go_enter Try.func82, Try.ntmps82
      go_wp2_with fail
      refine (HW.out _ HE0.out).mono ?_
      rintro e w1 ⟨rfl, E1⟩
      clear hmk
      have A1 := HA0.out.keep E1
      have E01 := HE0.out.trans E1
      clear HA0 HE0 E1
      have c1 := (E01.cell hg).trans HC0.out
      have cv := A1.cell (j := k) (by rw [zeros_len]; exact hkl)
      rw [zeros_at] at cv
      have fv := A1.free k
      obtain ⟨x, hx0⟩ : ∃ x, x = l.getD k 0 := ⟨_, rfl⟩; rw [← hx0] at c1 hsg hxb
      clear hx0
      have z1 := A1.lt
      go_wp2
      go_ret
      have e := HX2.out HONE.out ((l.length : Int) * p) ((l.length : Int) * p - x)
      have A2 := (A1.set k ((l.length : Int) * p - x)).set k ((l.length : Int) * p)
      rw [e] at A2
      refine ⟨some ⟨w.heap.size, 0, none⟩, l.length, by rw [HL.out]; rfl, ?_, (E01.setCell (Nat.le_refl _) _).setCell (Nat.le_refl _) _⟩
      have := A2.row (base := w.heap.size) (Nat.le_refl _) (by rw [HL.out]; omega)
      rwa [HL.out] at this
    · -- True False
      have hd1 : ((l.length : Int) == 1) = true := by rw [beq_iff_eq]; omega
      have HONE := hide hone; clear hone
      go_enter Try.func82, Try.ntmps82
      go_wp2_with fail
      refine (HW.out _ HE0.out).mono ?_
      rintro e w1 ⟨rfl, E1⟩
      clear hmk
      have A1 := HA0.out.keep E1
      have E01 := HE0.out.trans E1
      clear HA0 HE0 E1
      have c1 := (E01.cell hg).trans HC0.out
      have cv := A1.cell (j := k) (by rw [zeros_len]; exact hkl)
      rw [zeros_at] at cv
      have fv := A1.free k
      obtain ⟨x, hx0⟩ : ∃ x, x = l.getD k 0 := ⟨_, rfl⟩; rw [← hx0] at c1 hsg hxb
      clear hx0
      have z1 := A1.lt
      go_wp2
      go_ret
      have e := HX2.out HONE.out ((l.length : Int) * p) ((l.length : Int) * p)
      have A2 := (A1.set k ((l.length : Int) * p)).set k ((l.length : Int) * p)
      rw [e] at A2
      refine ⟨some ⟨w.heap.size, 0, none⟩, l.length, by rw [HL.out]; rfl, ?_, (E01.setCell (Nat.le_refl _) _).setCell (Nat.le_refl _) _⟩
      have := A2.row (base := w.heap.size) (Nat.le_refl _) (by rw [HL.out]; omega)
      rwa [HL.out] at this
  · by_cases hsg : 0 < l.getD k 0
    · -- False True
      have hd1 : ((l.length : Int) == 1) = false := by rw [beq_eq_false_iff_ne]; omega
      go_enter Try.func82, Try.ntmps82
      go_wp2_with fail
      refine (HW.out _ HE0.out).mono ?_
      rintro e w1 ⟨rfl, E1⟩
      clear hmk
      have A1 := HA0.out.keep E1
      have E01 := HE0.out.trans E1
      clear HA0 HE0 E1
      have c1 := (E01.cell hg).trans HC0.out
      have cv := A1.cell (j := k) (by rw [zeros_len]; exact hkl)
      rw [zeros_at] at cv
      have fv := A1.free k
      obtain ⟨x, hx0⟩ : ∃ x, x = l.getD k 0 := ⟨_, rfl⟩; rw [← hx0] at c1 hsg hxb HX1
      clear hx0
      have z1 := A1.lt
      obtain ⟨P, HS, HP, HPR⟩ : ∃ P : List Int, Hid (∀ w, Calls Try.prog 88 #[.int .i64 x, .int .i64 ((l.length : Int) - 1)] w (RetList P w)) ∧ Hid (P.length = l.length - 1) ∧ Hid (∀ i, i < P.length → P.getD i 0 = prt x ((l.length : Int) - 1) i) := by
        refine ⟨_, fun w => specSplitLoop x ((l.length : Int) - 1) w (by unfold VA; omega) (by omega) (by omega), ?_, ?_⟩
        · show List.length _ = _; rw [splitL_len]; omega
        · intro i hi; rw [splitL_len] at hi; exact splitL_prt _ _ _ _ hi
      have HG := hide (show gift l k = x by rw [HX1.out (by omega)]; exact Int.max_eq_right (by omega))
      clear HX1 HX2
      go_wp2_with fail
      have A2 := A1.set k ((l.length : Int) * p - x)
      have E02 := E01.setCell (Nat.le_refl w.heap.size) (o := k) (.int .i64 ((l.length : Int) * p - x))
      obtain ⟨W2, hW2⟩ : ∃ W2, W2 = w1.setCell ⟨w.heap.size, k, none⟩ (.int .i64 ((l.length : Int) * p - x)) := ⟨_, rfl⟩; rw [← hW2] at A2 E02 ⊢
      clear hW2 A1 cv fv c1
      refine (HS.out _).mono ?_
      rintro e w3 ⟨s3, c3, rfl, R3, hb3⟩
      have E3 := Ext.of hb3
      have A3 := A2.keep E3
      have E03 := E02.trans E3
      have P3 := R3.le (show w.heap.size + 1 ≤ W2.heap.size by have := A2.lt; omega)
      have hPl := HP.out
      have hP11 : P.length ≤ 11 := by omega
      have HPl := hide hPl; clear hPl
      clear A2 R3 hb3 E02 E01 HS E3
      have HAt := hide (payS_len l.length ((l.length : Int) * p) k x)
      have HN : Hid (∀ i, payS l.length ((l.length : Int) * p) k x (i + 1) = if i = k then payS l.length ((l.length : Int) * p) k x i else (payS l.length ((l.length : Int) * p) k x i).set i (prt x ((l.length : Int) - 1) (if i < k then i else i - 1))) := hide (fun i => rfl)
      have HFu := hide (payS_full (q := (l.length : Int) * p) (g := x) hkl)
      have A3 : Arr w3 w.heap.size (payS l.length ((l.length : Int) * p) k x 0) := by
        have e : payS l.length ((l.length : Int) * p) k x 0 = (zeros l.length).set k ((l.length : Int) * p - x) := rfl
        rw [e]; exact A3
      go_wp2
      go_loopw [12, 13] (fun c u wr => ∃ i j : Nat, i ≤ l.length ∧ u = .int .i64 i ∧ c = .int .i64 j ∧ Hid (j = if i ≤ k then i else i - 1) ∧ Arr wr w.heap.size (payS l.length ((l.length : Int) * p) k x i) ∧ Ext w wr ∧ Mid w.heap.size (w.heap.size + 1) w3 wr) (fun _ u _ => l.length - (intOf u).toNat)
      case atStart => exact ⟨0, 0, Nat.zero_le _, rfl, rfl, (show 0 = _ by rw [if_pos (Nat.zero_le _)]), A3, E03, Mid.refl _ _ _⟩
      case round =>
        clear A3 E03
        obtain ⟨i, j, hi, rfl, rfl, HJ, hA, hE, hM⟩ := hrel
        by_cases hlt : i < l.length
        · by_cases e : i = k
          · have hd2 : ((i : Int) != (k : Int)) = false := by rw [bne_eq_false_iff_eq]; omega
            have HN2 := hide (show payS l.length ((l.length : Int) * p) k x (i + 1) = payS l.length ((l.length : Int) * p) k x i by rw [HN.out, if_pos e])
            have HJ2 := hide (show j = if i + 1 ≤ k then i + 1 else i + 1 - 1 by rw [HJ.out, if_pos (by omega), if_neg (by omega)]; omega)
            have HEk := hide e; clear e
            go_wp2
            go_roundw
            case rel => exact ⟨i + 1, j, by omega, by go_num, rfl, HJ2, by rw [HN2.out]; exact hA, hE, hM⟩
            case measure => simp [intOf]; omega
          · have hd2 : ((i : Int) != (k : Int)) = true := by rw [bne_iff_ne]; omega
            have HJe := hide (show j = if i < k then i else i - 1 by
              rw [HJ.out]
              by_cases h : i < k
              · rw [if_pos h, if_pos (by omega)]
              · rw [if_neg h, if_neg (by omega)])
            have HJ2 := hide (show j + 1 = if i + 1 ≤ k then i + 1 else i + 1 - 1 by
              rw [HJe.out]
              by_cases h : i < k
              · rw [if_pos h, if_pos (by omega)]
              · rw [if_neg h, if_neg (by omega)]; omega)
            have hjP : j < P.length := by
              rw [HPl.out, HJe.out]
              by_cases h : i < k
              · rw [if_pos h]; omega
              · rw [if_neg h]; omega
            have HN2 := hide (show payS l.length ((l.length : Int) * p) k x (i + 1) = (payS l.length ((l.length : Int) * p) k x i).set i (prt x ((l.length : Int) - 1) j) by rw [HN.out, if_neg e, ← HJe.out])
            have PR := hM.row P3 (Nat.le_refl _)
            obtain ⟨g2, off2, rfl, hg2', e2⟩ := PR.lst.at hjP
            rw [HPR.out j hjP] at e2
            have hcb := hA.cell (j := i) (by rw [HAt.out]; exact hlt)
            have hfb := hA.free i
            obtain ⟨y, hy⟩ : ∃ y, y = (payS l.length ((l.length : Int) * p) k x i).getD i 0 := ⟨_, rfl⟩; rw [← hy] at hcb
            obtain ⟨z, hz⟩ : ∃ z, z = prt x ((l.length : Int) - 1) j := ⟨_, rfl⟩; rw [← hz] at e2 HN2
            clear hy hz PR e HJe
            go_wp2
            go_roundw
            case rel => exact ⟨i + 1, j + 1, by omega, by go_num, by go_num, HJ2, by rw [HN2.out]; exact hA.set i z, hE.setCell (Nat.le_refl _) _, hM.poke (Nat.le_refl _) (Nat.lt_succ_self _) _ _⟩
            case measure => simp [intOf]; omega
        · obtain rfl : i = l.length := by omega
          have hA2 := hA
          rw [HFu.out, ← HG.out] at hA2
          clear hA
          go_wp2
          go_ret
          refine ⟨some ⟨w.heap.size, 0, none⟩, l.length, by rw [HL.out]; rfl, ?_, hE⟩
          have := hA2.row (base := w.heap.size) (Nat.le_refl _) (by rw [HL.out]; omega)
          rwa [HL.out] at this
    · -- False False
      have hd1 : ((l.length : Int) == 1) = false := by rw [beq_eq_false_iff_ne]; omega
      go_enter Try.func82, Try.ntmps82
      go_wp2_with fail
      refine (HW.out _ HE0.out).mono ?_
      rintro e w1 ⟨rfl, E1⟩
      clear hmk
      have A1 := HA0.out.keep E1
      have E01 := HE0.out.trans E1
      clear HA0 HE0 E1
      have c1 := (E01.cell hg).trans HC0.out
      have cv := A1.cell (j := k) (by rw [zeros_len]; exact hkl)
      rw [zeros_at] at cv
      have fv := A1.free k
      obtain ⟨x, hx0⟩ : ∃ x, x = l.getD k 0 := ⟨_, rfl⟩; rw [← hx0] at c1 hsg hxb HX1
      clear hx0
      have z1 := A1.lt
      obtain ⟨P, HS, HP, HPR⟩ : ∃ P : List Int, Hid (∀ w, Calls Try.prog 88 #[.int .i64 0, .int .i64 ((l.length : Int) - 1)] w (RetList P w)) ∧ Hid (P.length = l.length - 1) ∧ Hid (∀ i, i < P.length → P.getD i 0 = prt 0 ((l.length : Int) - 1) i) := by
        refine ⟨_, fun w => specSplitLoop 0 ((l.length : Int) - 1) w (by unfold VA; omega) (by omega) (by omega), ?_, ?_⟩
        · show List.length _ = _; rw [splitL_len]; omega
        · intro i hi; rw [splitL_len] at hi; exact splitL_prt _ _ _ _ hi
      have HG := hide (show gift l k = 0 by rw [HX1.out (by omega)]; exact Int.max_eq_left (by omega))
      clear HX1 HX2
      go_wp2_with fail
      have A2 := A1.set k ((l.length : Int) * p)
      have E02 := E01.setCell (Nat.le_refl w.heap.size) (o := k) (.int .i64 ((l.length : Int) * p))
      obtain ⟨W2, hW2⟩ : ∃ W2, W2 = w1.setCell ⟨w.heap.size, k, none⟩ (.int .i64 ((l.length : Int) * p)) := ⟨_, rfl⟩; rw [← hW2] at A2 E02 ⊢
      clear hW2 A1 cv fv c1
      refine (HS.out _).mono ?_
      rintro e w3 ⟨s3, c3, rfl, R3, hb3⟩
      have E3 := Ext.of hb3
      have A3 := A2.keep E3
      have E03 := E02.trans E3
      have P3 := R3.le (show w.heap.size + 1 ≤ W2.heap.size by have := A2.lt; omega)
      have hPl := HP.out
      have hP11 : P.length ≤ 11 := by omega
      have HPl := hide hPl; clear hPl
      clear A2 R3 hb3 E02 E01 HS E3
      have HAt := hide (payS_len l.length ((l.length : Int) * p) k 0)
      have HN : Hid (∀ i, payS l.length ((l.length : Int) * p) k 0 (i + 1) = if i = k then payS l.length ((l.length : Int) * p) k 0 i else (payS l.length ((l.length : Int) * p) k 0 i).set i (prt 0 ((l.length : Int) - 1) (if i < k then i else i - 1))) := hide (fun i => rfl)
      have HFu := hide (payS_full (q := (l.length : Int) * p) (g := 0) hkl)
      have A3 : Arr w3 w.heap.size (payS l.length ((l.length : Int) * p) k 0 0) := by
        have e : payS l.length ((l.length : Int) * p) k 0 0 = (zeros l.length).set k ((l.length : Int) * p) := by show (zeros _).set k (_ - 0) = _; rw [Int.sub_zero]
        rw [e]; exact A3
      go_wp2
      go_loopw [12, 13] (fun c u wr => ∃ i j : Nat, i ≤ l.length ∧ u = .int .i64 i ∧ c = .int .i64 j ∧ Hid (j = if i ≤ k then i else i - 1) ∧ Arr wr w.heap.size (payS l.length ((l.length : Int) * p) k 0 i) ∧ Ext w wr ∧ Mid w.heap.size (w.heap.size + 1) w3 wr) (fun _ u _ => l.length - (intOf u).toNat)
      case atStart => exact ⟨0, 0, Nat.zero_le _, rfl, rfl, (show 0 = _ by rw [if_pos (Nat.zero_le _)]), A3, E03, Mid.refl _ _ _⟩
      case round =>
        clear A3 E03
        obtain ⟨i, j, hi, rfl, rfl, HJ, hA, hE, hM⟩ := hrel
        by_cases hlt : i < l.length
        · by_cases e : i = k
          · have hd2 : ((i : Int) != (k : Int)) = false := by rw [bne_eq_false_iff_eq]; omega
            have HN2 := hide (show payS l.length ((l.length : Int) * p) k 0 (i + 1) = payS l.length ((l.length : Int) * p) k 0 i by rw [HN.out, if_pos e])
            have HJ2 := hide (show j = if i + 1 ≤ k then i + 1 else i + 1 - 1 by rw [HJ.out, if_pos (by omega), if_neg (by omega)]; omega)
            have HEk := hide e; clear e
            go_wp2
            go_roundw
            case rel => exact ⟨i + 1, j, by omega, by go_num, rfl, HJ2, by rw [HN2.out]; exact hA, hE, hM⟩
            case measure => simp [intOf]; omega
          · have hd2 : ((i : Int) != (k : Int)) = true := by rw [bne_iff_ne]; omega
            have HJe := hide (show j = if i < k then i else i - 1 by
              rw [HJ.out]
              by_cases h : i < k
              · rw [if_pos h, if_pos (by omega)]
              · rw [if_neg h, if_neg (by omega)])
            have HJ2 := hide (show j + 1 = if i + 1 ≤ k then i + 1 else i + 1 - 1 by
              rw [HJe.out]
              by_cases h : i < k
              · rw [if_pos h, if_pos (by omega)]
              · rw [if_neg h, if_neg (by omega)]; omega)
            have hjP : j < P.length := by
              rw [HPl.out, HJe.out]
              by_cases h : i < k
              · rw [if_pos h]; omega
              · rw [if_neg h]; omega
            have HN2 := hide (show payS l.length ((l.length : Int) * p) k 0 (i + 1) = (payS l.length ((l.length : Int) * p) k 0 i).set i (prt 0 ((l.length : Int) - 1) j) by rw [HN.out, if_neg e, ← HJe.out])
            have PR := hM.row P3 (Nat.le_refl _)
            obtain ⟨g2, off2, rfl, hg2', e2⟩ := PR.lst.at hjP
            rw [HPR.out j hjP] at e2
            have hcb := hA.cell (j := i) (by rw [HAt.out]; exact hlt)
            have hfb := hA.free i
            obtain ⟨y, hy⟩ : ∃ y, y = (payS l.length ((l.length : Int) * p) k 0 i).getD i 0 := ⟨_, rfl⟩; rw [← hy] at hcb
            obtain ⟨z, hz⟩ : ∃ z, z = prt 0 ((l.length : Int) - 1) j := ⟨_, rfl⟩; rw [← hz] at e2 HN2
            clear hy hz PR e HJe
            go_wp2
            go_roundw
            case rel => exact ⟨i + 1, j + 1, by omega, by go_num, by go_num, HJ2, by rw [HN2.out]; exact hA.set i z, hE.setCell (Nat.le_refl _) _, hM.poke (Nat.le_refl _) (Nat.lt_succ_self _) _ _⟩
            case measure => simp [intOf]; omega
        · obtain rfl : i = l.length := by omega
          have hA2 := hA
          rw [HFu.out, ← HG.out] at hA2
          clear hA
          go_wp2
          go_ret
          refine ⟨some ⟨w.heap.size, 0, none⟩, l.length, by rw [HL.out]; rfl, ?_, hE⟩
          have := hA2.row (base := w.heap.size) (Nat.le_refl _) (by rw [HL.out]; omega)
          rwa [HL.out] at this
end Go.Proofs.Ythbkkbcbhhmhoab
