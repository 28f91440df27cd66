/- Chapter 2: members who vote together: contracts. -/
import Derived.Test.YtjdfdikifiljjaaWins
import Derived.Test.YtjdfdikifiljjaaDual
namespace Go.Proofs.Ytjdfdikifiljjaa
open Go.ChangeShapes Go.WideShapes Go.ChangeAt Go.RowKit Go.Joins Go.Sort
set_option linter.unusedVariables false

/-- the first votes when two members vote together -/
def mgK (l : List Int) (i k : Nat) : Nat → List Int
  | 0 => []
  | c + 1 => mgK l i k c ++ if c = i then [l.getD i 0 + l.getD k 0] else if c = k then [] else [l.getD c 0]
theorem mgK_len (l : List Int) (i k c : Nat) : (mgK l i k c).length ≤ c := by
  induction c with
  | zero => simp [mgK]
  | succ c ih => unfold mgK; rw [List.length_append]; split <;> (try split) <;> simp <;> omega
def mok (l : List Int) (need a b : Int) : Bool := decide (vb l need = true ∧ 0 ≤ a ∧ 0 ≤ b ∧ a ≠ b ∧ a < l.length ∧ b < l.length ∧ l.getD a.toNat 0 + l.getD b.toNat 0 ≤ 100)
theorem mok_iff {l : List Int} {need a b : Int} : mok l need a b = true ↔ vb l need = true ∧ 0 ≤ a ∧ 0 ≤ b ∧ a ≠ b ∧ a < l.length ∧ b < l.length ∧ l.getD a.toNat 0 + l.getD b.toNat 0 ≤ 100 := by unfold mok; simp only [decide_eq_true_eq]
theorem mok_comm (l : List Int) (need a b : Int) : mok l need a b = mok l need b a := by
  rw [Bool.eq_iff_iff, mok_iff, mok_iff]; constructor <;> (rintro ⟨h1, h2, h3, h4, h5, h6, h7⟩; exact ⟨h1, h3, h2, fun e => h4 e.symm, h6, h5, by omega⟩)
def mgL (l : List Int) (need a b : Int) : List Int := if mok l need a b = true then mgK l (min a b).toNat (max a b).toNat l.length else []
def mgN (l : List Int) (need a b : Int) : Int := if mok l need a b = true then need else 0
theorem mg_no {l : List Int} {need a b : Int} (h : ¬ mok l need a b = true) : mgL l need a b = [] ∧ mgN l need a b = 0 := ⟨if_neg h, if_neg h⟩
theorem mg_yes {l : List Int} {need a b : Int} (h : mok l need a b = true) {p q : Nat} (hp : min a b = p) (hq : max a b = q) : mgL l need a b = mgK l p q l.length ∧ mgN l need a b = need := by
  refine ⟨?_, if_pos h⟩
  unfold mgL; rw [if_pos h, hp, hq, Int.toNat_natCast, Int.toNat_natCast]
theorem mgL_len (l : List Int) (need a b : Int) : (mgL l need a b).length ≤ l.length := by
  unfold mgL; split
  · exact mgK_len _ _ _ _
  · simp
theorem mg_comm (l : List Int) (need a b : Int) : mgL l need a b = mgL l need b a ∧ mgN l need a b = mgN l need b a := by
  unfold mgL mgN; rw [mok_comm l need a b, Int.min_comm a b, Int.max_comm a b]; exact ⟨rfl, rfl⟩
theorem len_snoc (o : List Int) (x : Int) : o.length + 1 = (o ++ [x]).length := by simp

set_option maxHeartbeats 2000000 in
theorem implMerge_le (sa : Option Addr) (cap : Nat) (l : List Int) (need a b : Int) (w : World) (h : Lst w sa l) (hl : l.length ≤ 2000000) (hab : a ≤ b) :
    Calls Try.prog 31 #[.agg #[.slice sa l.length cap, .int .i64 need], .int .i64 a, .int .i64 b] w (RetBody (mgL l need a b) (mgN l need a b) w) := by
  have H := hide (h.ext (((Ext.refl w).alloc (.cells #[.slice sa l.length cap, .int .i64 need] 27)).alloc (.cells #[.slice none 0 0, .int .i64 0] 27)))
  have X0 := (Box.new w #[.slice sa l.length cap, .int .i64 need] 27).push (.cells #[.slice none 0 0, .int .i64 0] 27)
  have Y0 := Box.newAt (w.alloc (.cells #[.slice sa l.length cap, .int .i64 need] 27)) (w.heap.size + 1) #[.slice none 0 0, .int .i64 0] 27 (by simp)
  clear h
  by_cases hv : vb l need = true
  · obtain ⟨v1, v3, v4, _, _⟩ := vb_iff.1 hv
    have HX := hide v4; clear v4
    by_cases ha : a < 0
    · obtain ⟨d1, d2⟩ := mg_no (l := l) (need := need) (a := a) (b := b) fun h => by have := (mok_iff.1 h).2.1; omega
      have D1 := hide d1; clear d1
      have D2 := hide d2; clear d2
      go_enter Try.func31, Try.ntmps31
      go_wp2_with fail; refine (Ret.eqB (implValidBody _ _ l need _ H.out hl) hv).mono ?_; rintro e w1 ⟨rfl, E1⟩
      have hd : decide (a < 0) = true := decide_eq_true ha
      obtain ⟨b0, b1, b2, b3⟩ := (Y0.keep E1).two
      go_wp2
      refine bodyPost_ret (v := .agg #[.slice none 0 0, .int .i64 0]) (by simp [results, Try.results31, go_sem, b0, b1]) rfl ?_
      exact RetBody.of (l' := []) D1.out D2.out (Row.nil _ _) (Nat.le_refl _) (((((Ext.refl w).alloc _).alloc _).trans E1).setCell (by omega) _ |>.setCell (by omega) _)
    · by_cases hne : a = b
      · obtain ⟨d1, d2⟩ := mg_no (l := l) (need := need) (a := a) (b := b) fun h => (mok_iff.1 h).2.2.2.1 hne
        have D1 := hide d1; clear d1
        have D2 := hide d2; clear d2
        have hd : ((a : Int) == b) = true := by rw [beq_iff_eq]; exact hne
        have HNE := hide hne; clear hne
        have hab' : a ≤ b := by have := HNE.out; omega
        go_enter Try.func31, Try.ntmps31
        go_wp2_with fail; refine (Ret.eqB (implValidBody _ _ l need _ H.out hl) hv).mono ?_; rintro e w1 ⟨rfl, E1⟩
        obtain ⟨b0, b1, b2, b3⟩ := (Y0.keep E1).two
        go_wp2
        refine bodyPost_ret (v := .agg #[.slice none 0 0, .int .i64 0]) (by simp [results, Try.results31, go_sem, b0, b1]) rfl ?_
        exact RetBody.of (l' := []) D1.out D2.out (Row.nil _ _) (Nat.le_refl _) (((((Ext.refl w).alloc _).alloc _).trans E1).setCell (by omega) _ |>.setCell (by omega) _)
      · have hd : ((a : Int) == b) = false := by rw [beq_eq_false_iff_ne]; exact hne
        have hlt : a < b := by omega
        by_cases hb : (l.length : Int) ≤ b
        · obtain ⟨d1, d2⟩ := mg_no (l := l) (need := need) (a := a) (b := b) fun h => by have := (mok_iff.1 h).2.2.2.2.2.1; omega
          have D1 := hide d1; clear d1
          have D2 := hide d2; clear d2
          clear hne
          go_enter Try.func31, Try.ntmps31
          go_wp2_with fail; refine (Ret.eqB (implValidBody _ _ l need _ H.out hl) hv).mono ?_; rintro e w1 ⟨rfl, E1⟩
          obtain ⟨c0, c1, _, _⟩ := (X0.keep E1).two
          obtain ⟨b0, b1, b2, b3⟩ := (Y0.keep E1).two
          go_wp2
          refine bodyPost_ret (v := .agg #[.slice none 0 0, .int .i64 0]) (by simp [results, Try.results31, go_sem, b0, b1]) rfl ?_
          exact RetBody.of (l' := []) D1.out D2.out (Row.nil _ _) (Nat.le_refl _) (((((Ext.refl w).alloc _).alloc _).trans E1).setCell (by omega) _ |>.setCell (by omega) _)
        · obtain ⟨p, rfl⟩ := Int.eq_ofNat_of_zero_le (show 0 ≤ a by omega)
          obtain ⟨q, rfl⟩ := Int.eq_ofNat_of_zero_le (show 0 ≤ b by omega)
          have hpl : p < l.length := by omega
          have hql : q < l.length := by omega
          have hx := HX.out _ (getD_mem hpl)
          have hy := HX.out _ (getD_mem hql)
          by_cases hbig : 100 < l.getD p 0 + l.getD q 0
          · obtain ⟨d1, d2⟩ := mg_no (l := l) (need := need) (a := p) (b := q) fun h => by have := (mok_iff.1 h).2.2.2.2.2.2; simp only [Int.toNat_natCast] at this; omega
            have D1 := hide d1; clear d1
            have D2 := hide d2; clear d2
            clear hne
            go_enter Try.func31, Try.ntmps31
            go_wp2_with fail; refine (Ret.eqB (implValidBody _ _ l need _ H.out hl) hv).mono ?_; rintro e w1 ⟨rfl, E1⟩
            obtain ⟨c0, c1, _, _⟩ := (X0.keep E1).two
            obtain ⟨r0, r1⟩ := X0.reads E1
            obtain ⟨g, off, rfl, hg, e1⟩ := (H.out.ext E1).at hpl
            obtain ⟨g', off', hgg, hg', e2⟩ := (H.out.ext E1).at hql
            simp only [Option.some.injEq, Addr.mk.injEq] at hgg
            obtain ⟨rfl, rfl, _⟩ := hgg
            obtain ⟨x, hx2⟩ : ∃ x, x = l.getD p 0 := ⟨_, rfl⟩; rw [← hx2] at e1 hx hbig
            obtain ⟨y, hy2⟩ : ∃ y, y = l.getD q 0 := ⟨_, rfl⟩; rw [← hy2] at e2 hy hbig
            clear hx2 hy2
            have k1 := cell_regrown e1
            have k2 := cell_regrown e2
            have hw : IntKind.i64.wrap (x + y) = x + y := IntWalk.i64_in _ (by omega)
            go_wp2
            refine wp_region_quiet_below (by kernel_rfl) (by kernel_rfl) ?_
            repeat (go_big_quiet_step (fail))
            refine wpQuiet_nil ?_; intro w9 hq; have E9 := Ext.class hq; clear hq
            have E1 := E1.trans E9
            clear hw
            obtain ⟨b0, b1, b2, b3⟩ := (Y0.keep E1).two
            go_wp2
            refine bodyPost_ret (v := .agg #[.slice none 0 0, .int .i64 0]) (by simp [results, Try.results31, go_sem, b0, b1]) rfl ?_
            exact RetBody.of (l' := []) D1.out D2.out (Row.nil _ _) (Nat.le_refl _) (((((Ext.refl w).alloc _).alloc _).trans E1).setCell (by omega) _ |>.setCell (by omega) _)
          · obtain ⟨d1, d2⟩ := mg_yes (l := l) (need := need) (a := p) (b := q) (mok_iff.2 ⟨hv, by omega, by omega, hne, by omega, by omega, by simp only [Int.toNat_natCast]; omega⟩) (p := p) (q := q) (by omega) (by omega)
            have D1 := hide d1; clear d1
            have D2 := hide d2; clear d2
            clear hne
            have q1 : decide ((p : Int) < 0) = false := decide_eq_false (by omega)
            have q2 : decide (l.length ≤ q) = false := decide_eq_false (by omega)
            go_enter Try.func31, Try.ntmps31
            go_wp2_with fail; refine (Ret.eqB (implValidBody _ _ l need _ H.out hl) hv).mono ?_; rintro e w1 ⟨rfl, E1⟩
            obtain ⟨c0, c1, _, _⟩ := (X0.keep E1).two
            obtain ⟨r0, r1⟩ := X0.reads E1
            obtain ⟨g, off, hgs, hg, e1⟩ := (H.out.ext E1).at hpl
            obtain ⟨g', off', hgg, hg', e2⟩ := (H.out.ext E1).at hql
            rw [hgs] at hgg
            simp only [Option.some.injEq, Addr.mk.injEq] at hgg
            obtain ⟨rfl, rfl, _⟩ := hgg
            subst hgs
            obtain ⟨x, hx2⟩ : ∃ x, x = l.getD p 0 := ⟨_, rfl⟩; rw [← hx2] at e1 hx hbig
            obtain ⟨y, hy2⟩ : ∃ y, y = l.getD q 0 := ⟨_, rfl⟩; rw [← hy2] at e2 hy hbig
            have HXX := hide hx2
            have HYY := hide hy2
            clear hx2 hy2
            have k1 := cell_regrown e1
            have k2 := cell_regrown e2
            have hw : IntKind.i64.wrap (x + y) = x + y := IntWalk.i64_in _ (by omega)
            have q3 : decide (100 < x + y) = false := decide_eq_false (by omega)
            go_wp2
            refine wp_region_quiet_below (by kernel_rfl) (by kernel_rfl) ?_
            repeat (go_big_quiet_step (fail))
            refine wpQuiet_nil ?_; intro w9 hq; have E9 := Ext.class hq; clear hq
            clear hw c0 c1 e1 e2 r0 r1 k1 k2
            have E19 := E1.trans E9
            have X9 := X0.keep E19
            have Y9 := Y0.keep E19
            have EA := (((Ext.refl w).alloc (.cells #[.slice (some ⟨g, off, none⟩) l.length cap, .int .i64 need] 27)).alloc (.cells #[.slice none 0 0, .int .i64 0] 27)).trans E19
            obtain ⟨c0, c1, _, _⟩ := X9.two
            go_wp2
            have HL9 := hide (H.out.ext E19)
            clear c0 c1
            go_loopw [8, 53] (fun v i wr => ∃ (c : Nat) (s2 : Option Addr) (c2 : Nat) (o : List Int), c ≤ l.length ∧ i = .int .i64 c ∧ v = .slice s2 o.length c2 ∧ Hid (o = mgK l p q c) ∧ Row w9.heap.size wr s2 c2 o ∧ Ext w9 wr) (fun _ i _ => l.length - (intOf i).toNat)
            case atStart => exact ⟨0, none, 0, [], Nat.zero_le _, rfl, rfl, rfl, Row.nil _ _, Ext.refl _⟩
            case round =>
              obtain ⟨c, s2, c2, o, hc, rfl, rfl, HO, hr, hE⟩ := hrel
              have ho : o.length ≤ c := by rw [HO.out]; exact mgK_len _ _ _ _
              by_cases hlt2 : c < l.length
              · obtain ⟨g2, off2, hgg, hg2, e3⟩ := (HL9.out.ext hE).at hlt2
                simp only [Option.some.injEq, Addr.mk.injEq] at hgg
                obtain ⟨rfl, rfl, _⟩ := hgg
                by_cases hcp : c = p
                · have HS := hide (show o ++ [x + y] = mgK l p q (c + 1) by unfold mgK; rw [if_pos hcp, HO.out, HXX.out, HYY.out])
                  have t1 := eq_len' hcp
                  clear hcp
                  go_wp2_with (first | (at_builtin; refine append_int rfl (.tmp 61) (.tmp 63) rfl w9.heap.size wr s2 c2 o (x + y) _ rfl rfl hr (by omega) hE.size ?_; intro g3 cap3 w3 R3 hb3))
                  have E3 := Ext.of (Below.trans hE hb3)
                  clear hb3
                  go_wp2
                  go_roundw
                  case rel => exact ⟨c + 1, _, _, _, by omega, by go_num, by rw [len_snoc o (x + y)], HS, R3, E3⟩
                  case measure => simp [intOf]; omega
                · have t1 := ne_len' hcp
                  by_cases hcq : c = q
                  · have HS := hide (show o = mgK l p q (c + 1) by unfold mgK; rw [if_neg hcp, if_pos hcq, HO.out]; simp)
                    have t2 := eq_len hcq
                    clear hcp hcq
                    go_wp2
                    go_roundw
                    case rel => exact ⟨c + 1, _, _, _, by omega, by go_num, rfl, HS, hr, hE⟩
                    case measure => simp [intOf]; omega
                  · have HS := hide (show o ++ [l.getD c 0] = mgK l p q (c + 1) by unfold mgK; rw [if_neg hcp, if_neg hcq, HO.out])
                    have t2 := ne_len hcq
                    obtain ⟨z, hz⟩ : ∃ z, z = l.getD c 0 := ⟨_, rfl⟩; rw [← hz] at e3 HS
                    clear hcp hcq hz
                    go_wp2_with (first | (at_builtin; refine append_int rfl (.tmp 68) (.tmp 70) rfl w9.heap.size wr s2 c2 o z _ rfl rfl hr (by omega) hE.size ?_; intro g3 cap3 w3 R3 hb3))
                    have E3 := Ext.of (Below.trans hE hb3)
                    clear hb3
                    go_wp2
                    go_roundw
                    case rel => exact ⟨c + 1, _, _, _, by omega, by go_num, by rw [len_snoc o z], HS, R3, E3⟩
                    case measure => simp [intOf]; omega
              · obtain rfl : c = l.length := by omega
                obtain ⟨c0, c1, _, _⟩ := (X9.keep hE).two
                obtain ⟨b0, b1, b2, b3⟩ := (Y9.keep hE).two
                have zlt := Y9.lt
                go_wp2
                refine bodyPost_ret (v := .agg #[.slice s2 o.length c2, .int .i64 need]) (by simp [results, Try.results31, go_sem, b0, b1]) rfl ?_
                exact RetBody.of (by rw [D1.out, HO.out]) D2.out ((hr.put zlt _ _).put zlt _ _) EA.size ((EA.trans hE).setCell (by omega) _ |>.setCell (by omega) _)
  · obtain ⟨d1, d2⟩ := mg_no (l := l) (need := need) (a := a) (b := b) fun h => hv (mok_iff.1 h).1
    have D1 := hide d1; clear d1
    have D2 := hide d2; clear d2
    rw [Bool.not_eq_true] at hv
    go_enter Try.func31, Try.ntmps31
    go_wp2_with fail; refine (Ret.eqB (implValidBody _ _ l need _ H.out hl) hv).mono ?_; rintro e w1 ⟨rfl, E1⟩
    obtain ⟨b0, b1, b2, b3⟩ := (Y0.keep E1).two
    go_wp2
    refine bodyPost_ret (v := .agg #[.slice none 0 0, .int .i64 0]) (by simp [results, Try.results31, go_sem, b0, b1]) rfl ?_
    exact RetBody.of (l' := []) D1.out D2.out (Row.nil _ _) (Nat.le_refl _) (((((Ext.refl w).alloc _).alloc _).trans E1).setCell (by omega) _ |>.setCell (by omega) _)

set_option maxHeartbeats 2000000 in
theorem implMerge_gt (sa : Option Addr) (cap : Nat) (l : List Int) (need a b : Int) (w : World) (h : Lst w sa l) (hl : l.length ≤ 2000000) (hab : a < b) :
    Calls Try.prog 31 #[.agg #[.slice sa l.length cap, .int .i64 need], .int .i64 b, .int .i64 a] w (RetBody (mgL l need a b) (mgN l need a b) w) := by
  have H := hide (h.ext (((Ext.refl w).alloc (.cells #[.slice sa l.length cap, .int .i64 need] 27)).alloc (.cells #[.slice none 0 0, .int .i64 0] 27)))
  have X0 := (Box.new w #[.slice sa l.length cap, .int .i64 need] 27).push (.cells #[.slice none 0 0, .int .i64 0] 27)
  have Y0 := Box.newAt (w.alloc (.cells #[.slice sa l.length cap, .int .i64 need] 27)) (w.heap.size + 1) #[.slice none 0 0, .int .i64 0] 27 (by simp)
  clear h
  by_cases hv : vb l need = true
  · obtain ⟨v1, v3, v4, _, _⟩ := vb_iff.1 hv
    have HX := hide v4; clear v4
    by_cases ha : a < 0
    · obtain ⟨d1, d2⟩ := mg_no (l := l) (need := need) (a := a) (b := b) fun h => by have := (mok_iff.1 h).2.1; omega
      have D1 := hide d1; clear d1
      have D2 := hide d2; clear d2
      go_enter Try.func31, Try.ntmps31
      go_wp2_with fail; refine (Ret.eqB (implValidBody _ _ l need _ H.out hl) hv).mono ?_; rintro e w1 ⟨rfl, E1⟩
      have hd : decide (a < 0) = true := decide_eq_true ha
      obtain ⟨b0, b1, b2, b3⟩ := (Y0.keep E1).two
      go_wp2
      refine bodyPost_ret (v := .agg #[.slice none 0 0, .int .i64 0]) (by simp [results, Try.results31, go_sem, b0, b1]) rfl ?_
      exact RetBody.of (l' := []) D1.out D2.out (Row.nil _ _) (Nat.le_refl _) (((((Ext.refl w).alloc _).alloc _).trans E1).setCell (by omega) _ |>.setCell (by omega) _)
    · by_cases hne : a = b
      · obtain ⟨d1, d2⟩ := mg_no (l := l) (need := need) (a := a) (b := b) fun h => (mok_iff.1 h).2.2.2.1 hne
        have D1 := hide d1; clear d1
        have D2 := hide d2; clear d2
        have hd : ((a : Int) == b) = true := by rw [beq_iff_eq]; exact hne
        have HNE := hide hne; clear hne
        have hab' : a ≤ b := by have := HNE.out; omega
        go_enter Try.func31, Try.ntmps31
        go_wp2_with fail; refine (Ret.eqB (implValidBody _ _ l need _ H.out hl) hv).mono ?_; rintro e w1 ⟨rfl, E1⟩
        obtain ⟨b0, b1, b2, b3⟩ := (Y0.keep E1).two
        go_wp2
        refine bodyPost_ret (v := .agg #[.slice none 0 0, .int .i64 0]) (by simp [results, Try.results31, go_sem, b0, b1]) rfl ?_
        exact RetBody.of (l' := []) D1.out D2.out (Row.nil _ _) (Nat.le_refl _) (((((Ext.refl w).alloc _).alloc _).trans E1).setCell (by omega) _ |>.setCell (by omega) _)
      · have hd : ((a : Int) == b) = false := by rw [beq_eq_false_iff_ne]; exact hne
        have hlt : a < b := by omega
        by_cases hb : (l.length : Int) ≤ b
        · obtain ⟨d1, d2⟩ := mg_no (l := l) (need := need) (a := a) (b := b) fun h => by have := (mok_iff.1 h).2.2.2.2.2.1; omega
          have D1 := hide d1; clear d1
          have D2 := hide d2; clear d2
          clear hne
          go_enter Try.func31, Try.ntmps31
          go_wp2_with fail; refine (Ret.eqB (implValidBody _ _ l need _ H.out hl) hv).mono ?_; rintro e w1 ⟨rfl, E1⟩
          obtain ⟨c0, c1, _, _⟩ := (X0.keep E1).two
          obtain ⟨b0, b1, b2, b3⟩ := (Y0.keep E1).two
          go_wp2
          refine bodyPost_ret (v := .agg #[.slice none 0 0, .int .i64 0]) (by simp [results, Try.results31, go_sem, b0, b1]) rfl ?_
          exact RetBody.of (l' := []) D1.out D2.out (Row.nil _ _) (Nat.le_refl _) (((((Ext.refl w).alloc _).alloc _).trans E1).setCell (by omega) _ |>.setCell (by omega) _)
        · obtain ⟨p, rfl⟩ := Int.eq_ofNat_of_zero_le (show 0 ≤ a by omega)
          obtain ⟨q, rfl⟩ := Int.eq_ofNat_of_zero_le (show 0 ≤ b by omega)
          have hpl : p < l.length := by omega
          have hql : q < l.length := by omega
          have hx := HX.out _ (getD_mem hpl)
          have hy := HX.out _ (getD_mem hql)
          by_cases hbig : 100 < l.getD p 0 + l.getD q 0
          · obtain ⟨d1, d2⟩ := mg_no (l := l) (need := need) (a := p) (b := q) fun h => by have := (mok_iff.1 h).2.2.2.2.2.2; simp only [Int.toNat_natCast] at this; omega
            have D1 := hide d1; clear d1
            have D2 := hide d2; clear d2
            clear hne
            go_enter Try.func31, Try.ntmps31
            go_wp2_with fail; refine (Ret.eqB (implValidBody _ _ l need _ H.out hl) hv).mono ?_; rintro e w1 ⟨rfl, E1⟩
            obtain ⟨c0, c1, _, _⟩ := (X0.keep E1).two
            obtain ⟨r0, r1⟩ := X0.reads E1
            obtain ⟨g, off, rfl, hg, e1⟩ := (H.out.ext E1).at hpl
            obtain ⟨g', off', hgg, hg', e2⟩ := (H.out.ext E1).at hql
            simp only [Option.some.injEq, Addr.mk.injEq] at hgg
            obtain ⟨rfl, rfl, _⟩ := hgg
            obtain ⟨x, hx2⟩ : ∃ x, x = l.getD p 0 := ⟨_, rfl⟩; rw [← hx2] at e1 hx hbig
            obtain ⟨y, hy2⟩ : ∃ y, y = l.getD q 0 := ⟨_, rfl⟩; rw [← hy2] at e2 hy hbig
            clear hx2 hy2
            have k1 := cell_regrown e1
            have k2 := cell_regrown e2
            have hw : IntKind.i64.wrap (x + y) = x + y := IntWalk.i64_in _ (by omega)
            go_wp2
            refine wp_region_quiet_below (by kernel_rfl) (by kernel_rfl) ?_
            repeat (go_big_quiet_step (fail))
            refine wpQuiet_nil ?_; intro w9 hq; have E9 := Ext.class hq; clear hq
            have E1 := E1.trans E9
            clear hw
            obtain ⟨b0, b1, b2, b3⟩ := (Y0.keep E1).two
            go_wp2
            refine bodyPost_ret (v := .agg #[.slice none 0 0, .int .i64 0]) (by simp [results, Try.results31, go_sem, b0, b1]) rfl ?_
            exact RetBody.of (l' := []) D1.out D2.out (Row.nil _ _) (Nat.le_refl _) (((((Ext.refl w).alloc _).alloc _).trans E1).setCell (by omega) _ |>.setCell (by omega) _)
          · obtain ⟨d1, d2⟩ := mg_yes (l := l) (need := need) (a := p) (b := q) (mok_iff.2 ⟨hv, by omega, by omega, hne, by omega, by omega, by simp only [Int.toNat_natCast]; omega⟩) (p := p) (q := q) (by omega) (by omega)
            have D1 := hide d1; clear d1
            have D2 := hide d2; clear d2
            clear hne
            have q1 : decide ((p : Int) < 0) = false := decide_eq_false (by omega)
            have q2 : decide (l.length ≤ q) = false := decide_eq_false (by omega)
            go_enter Try.func31, Try.ntmps31
            go_wp2_with fail; refine (Ret.eqB (implValidBody _ _ l need _ H.out hl) hv).mono ?_; rintro e w1 ⟨rfl, E1⟩
            obtain ⟨c0, c1, _, _⟩ := (X0.keep E1).two
            obtain ⟨r0, r1⟩ := X0.reads E1
            obtain ⟨g, off, hgs, hg, e1⟩ := (H.out.ext E1).at hpl
            obtain ⟨g', off', hgg, hg', e2⟩ := (H.out.ext E1).at hql
            rw [hgs] at hgg
            simp only [Option.some.injEq, Addr.mk.injEq] at hgg
            obtain ⟨rfl, rfl, _⟩ := hgg
            subst hgs
            obtain ⟨x, hx2⟩ : ∃ x, x = l.getD p 0 := ⟨_, rfl⟩; rw [← hx2] at e1 hx hbig
            obtain ⟨y, hy2⟩ : ∃ y, y = l.getD q 0 := ⟨_, rfl⟩; rw [← hy2] at e2 hy hbig
            have HXX := hide hx2
            have HYY := hide hy2
            clear hx2 hy2
            have k1 := cell_regrown e1
            have k2 := cell_regrown e2
            have hw : IntKind.i64.wrap (x + y) = x + y := IntWalk.i64_in _ (by omega)
            have q3 : decide (100 < x + y) = false := decide_eq_false (by omega)
            go_wp2
            refine wp_region_quiet_below (by kernel_rfl) (by kernel_rfl) ?_
            repeat (go_big_quiet_step (fail))
            refine wpQuiet_nil ?_; intro w9 hq; have E9 := Ext.class hq; clear hq
            clear hw c0 c1 e1 e2 r0 r1 k1 k2
            have E19 := E1.trans E9
            have X9 := X0.keep E19
            have Y9 := Y0.keep E19
            have EA := (((Ext.refl w).alloc (.cells #[.slice (some ⟨g, off, none⟩) l.length cap, .int .i64 need] 27)).alloc (.cells #[.slice none 0 0, .int .i64 0] 27)).trans E19
            obtain ⟨c0, c1, _, _⟩ := X9.two
            go_wp2
            have HL9 := hide (H.out.ext E19)
            clear c0 c1
            go_loopw [8, 53] (fun v i wr => ∃ (c : Nat) (s2 : Option Addr) (c2 : Nat) (o : List Int), c ≤ l.length ∧ i = .int .i64 c ∧ v = .slice s2 o.length c2 ∧ Hid (o = mgK l p q c) ∧ Row w9.heap.size wr s2 c2 o ∧ Ext w9 wr) (fun _ i _ => l.length - (intOf i).toNat)
            case atStart => exact ⟨0, none, 0, [], Nat.zero_le _, rfl, rfl, rfl, Row.nil _ _, Ext.refl _⟩
            case round =>
              obtain ⟨c, s2, c2, o, hc, rfl, rfl, HO, hr, hE⟩ := hrel
              have ho : o.length ≤ c := by rw [HO.out]; exact mgK_len _ _ _ _
              by_cases hlt2 : c < l.length
              · obtain ⟨g2, off2, hgg, hg2, e3⟩ := (HL9.out.ext hE).at hlt2
                simp only [Option.some.injEq, Addr.mk.injEq] at hgg
                obtain ⟨rfl, rfl, _⟩ := hgg
                by_cases hcp : c = p
                · have HS := hide (show o ++ [x + y] = mgK l p q (c + 1) by unfold mgK; rw [if_pos hcp, HO.out, HXX.out, HYY.out])
                  have t1 := eq_len' hcp
                  clear hcp
                  go_wp2_with (first | (at_builtin; refine append_int rfl (.tmp 61) (.tmp 63) rfl w9.heap.size wr s2 c2 o (x + y) _ rfl rfl hr (by omega) hE.size ?_; intro g3 cap3 w3 R3 hb3))
                  have E3 := Ext.of (Below.trans hE hb3)
                  clear hb3
                  go_wp2
                  go_roundw
                  case rel => exact ⟨c + 1, _, _, _, by omega, by go_num, by rw [len_snoc o (x + y)], HS, R3, E3⟩
                  case measure => simp [intOf]; omega
                · have t1 := ne_len' hcp
                  by_cases hcq : c = q
                  · have HS := hide (show o = mgK l p q (c + 1) by unfold mgK; rw [if_neg hcp, if_pos hcq, HO.out]; simp)
                    have t2 := eq_len hcq
                    clear hcp hcq
                    go_wp2
                    go_roundw
                    case rel => exact ⟨c + 1, _, _, _, by omega, by go_num, rfl, HS, hr, hE⟩
                    case measure => simp [intOf]; omega
                  · have HS := hide (show o ++ [l.getD c 0] = mgK l p q (c + 1) by unfold mgK; rw [if_neg hcp, if_neg hcq, HO.out])
                    have t2 := ne_len hcq
                    obtain ⟨z, hz⟩ : ∃ z, z = l.getD c 0 := ⟨_, rfl⟩; rw [← hz] at e3 HS
                    clear hcp hcq hz
                    go_wp2_with (first | (at_builtin; refine append_int rfl (.tmp 68) (.tmp 70) rfl w9.heap.size wr s2 c2 o z _ rfl rfl hr (by omega) hE.size ?_; intro g3 cap3 w3 R3 hb3))
                    have E3 := Ext.of (Below.trans hE hb3)
                    clear hb3
                    go_wp2
                    go_roundw
                    case rel => exact ⟨c + 1, _, _, _, by omega, by go_num, by rw [len_snoc o z], HS, R3, E3⟩
                    case measure => simp [intOf]; omega
              · obtain rfl : c = l.length := by omega
                obtain ⟨c0, c1, _, _⟩ := (X9.keep hE).two
                obtain ⟨b0, b1, b2, b3⟩ := (Y9.keep hE).two
                have zlt := Y9.lt
                go_wp2
                refine bodyPost_ret (v := .agg #[.slice s2 o.length c2, .int .i64 need]) (by simp [results, Try.results31, go_sem, b0, b1]) rfl ?_
                exact RetBody.of (by rw [D1.out, HO.out]) D2.out ((hr.put zlt _ _).put zlt _ _) EA.size ((EA.trans hE).setCell (by omega) _ |>.setCell (by omega) _)
  · obtain ⟨d1, d2⟩ := mg_no (l := l) (need := need) (a := a) (b := b) fun h => hv (mok_iff.1 h).1
    have D1 := hide d1; clear d1
    have D2 := hide d2; clear d2
    rw [Bool.not_eq_true] at hv
    go_enter Try.func31, Try.ntmps31
    go_wp2_with fail; refine (Ret.eqB (implValidBody _ _ l need _ H.out hl) hv).mono ?_; rintro e w1 ⟨rfl, E1⟩
    obtain ⟨b0, b1, b2, b3⟩ := (Y0.keep E1).two
    go_wp2
    refine bodyPost_ret (v := .agg #[.slice none 0 0, .int .i64 0]) (by simp [results, Try.results31, go_sem, b0, b1]) rfl ?_
    exact RetBody.of (l' := []) D1.out D2.out (Row.nil _ _) (Nat.le_refl _) (((((Ext.refl w).alloc _).alloc _).trans E1).setCell (by omega) _ |>.setCell (by omega) _)

theorem implMerge (sa : Option Addr) (cap : Nat) (l : List Int) (need a b : Int) (w : World) (h : Lst w sa l) (hl : l.length ≤ 2000000) :
    Calls Try.prog 31 #[.agg #[.slice sa l.length cap, .int .i64 need], .int .i64 a, .int .i64 b] w (RetBody (mgL l need a b) (mgN l need a b) w) := by
  by_cases hab : a ≤ b
  · exact implMerge_le sa cap l need a b w h hl hab
  · rw [(mg_comm l need a b).1, (mg_comm l need a b).2]
    exact implMerge_gt sa cap l need b a w h hl (by omega)
end Go.Proofs.Ytjdfdikifiljjaa
