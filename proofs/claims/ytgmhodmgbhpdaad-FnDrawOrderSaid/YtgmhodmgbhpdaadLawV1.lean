/- Chapter 3: the walk of the law of honest reveals, at drawn arguments. -/
import Derived.Test.YtgmhodmgbhpdaadDrawU
namespace Go.Proofs.Ytgmhodmgbhpdaad
open Go.ChangeShapes Go.WideShapes Go.ChangeAt Go.RowKit Go.Joins Go.Sort
set_option linter.unusedVariables false

theorem hn_mem (ll : List Rv) (m : Nat) : ∀ k, (m : Int) ∈ hnK ll k ↔ m < k ∧ hnB (ll.getD m Rv.z) = true := by
  intro k
  induction k with
  | zero => show (m : Int) ∈ ([] : List Int) ↔ _; simp
  | succ k ih =>
    by_cases h : hnB (ll.getD k Rv.z) = true
    · rw [← hnK_yes h, List.mem_append, ih, List.mem_singleton]
      constructor
      · rintro (⟨h1, h2⟩ | h1)
        · exact ⟨by omega, h2⟩
        · have : m = k := by omega
          subst this; exact ⟨by omega, h⟩
      · rintro ⟨h1, h2⟩
        by_cases e : m = k
        · right; omega
        · left; exact ⟨by omega, h2⟩
    · have h3 := h
      rw [Bool.not_eq_true] at h3
      rw [← hnK_no h3, ih]
      constructor
      · rintro ⟨h1, h2⟩; exact ⟨by omega, h2⟩
      · rintro ⟨h1, h2⟩
        by_cases e : m = k
        · subst e; exact absurd h2 h
        · exact ⟨by omega, h2⟩
theorem hn_asc (ll : List Rv) : ∀ k c, c + 1 < (hnK ll k).length → (hnK ll k).getD c 0 < (hnK ll k).getD (c + 1) 0 := by
  intro k
  induction k with
  | zero => intro c h; exact absurd h (Nat.not_lt_zero _)
  | succ k ih =>
    intro c h
    by_cases h2 : hnB (ll.getD k Rv.z) = true
    · rw [← hnK_yes h2] at h ⊢
      rw [List.length_append] at h
      have hL : ([(k : Int)] : List Int).length = 1 := rfl
      have e1 : (hnK ll k ++ [(k : Int)]).getD c 0 = (hnK ll k).getD c 0 := by
        rw [List.getD_eq_getElem?_getD, List.getElem?_append_left (by omega), ← List.getD_eq_getElem?_getD]
      rw [e1]
      by_cases h4 : c + 1 < (hnK ll k).length
      · rw [List.getD_eq_getElem?_getD (i := c + 1), List.getElem?_append_left h4, ← List.getD_eq_getElem?_getD]; exact ih c h4
      · have e2 : (hnK ll k ++ [(k : Int)]).getD (c + 1) 0 = (k : Int) := by
          rw [List.getD_eq_getElem?_getD, List.getElem?_append_right (by omega), show c + 1 - (hnK ll k).length = 0 by omega]; rfl
        rw [e2]
        have hm : (hnK ll k).getD c 0 ∈ hnK ll k := by
          have hc : c < (hnK ll k).length := by omega
          rw [List.getD_eq_getElem?_getD, List.getElem?_eq_getElem hc]; exact List.getElem_mem hc
        obtain ⟨m, e, hm2⟩ := hnK_at k _ hm
        omega
    · rw [Bool.not_eq_true] at h2
      rw [← hnK_no h2] at h ⊢; exact ih c h
theorem hn_facts {ll : List Rv} (h0 : 0 < (hnL ll).length) : (∀ k, k < ll.length → decide ((k : Int) ∈ hnL ll) = hnB (ll.getD k Rv.z)) ∧ (∀ k, k < ll.length → cm (ll.getD k Rv.z).v (ll.getD k Rv.z).s = cmt (ll.getD k Rv.z).v (ll.getD k Rv.z).s) ∧
    (∀ c, c + 1 < (hnL ll).length → (hnL ll).getD c 0 < (hnL ll).getD (c + 1) 0) := by
  by_cases h : rvsOk ll
  · rw [hnL_yes h]
    refine ⟨fun k hk => ?_, fun k hk => cm_yes (h.2 k hk), hn_asc ll ll.length⟩
    rw [Bool.eq_iff_iff, decide_eq_true_iff, hn_mem]
    exact ⟨fun h => h.2, fun h => ⟨hk, h⟩⟩
  · rw [hnL_no h] at h0; simp at h0
theorem hnL_len (ll : List Rv) : (hnL ll).length ≤ ll.length := by
  by_cases h : rvsOk ll
  · rw [hnL_yes h]; exact hnK_len ll _
  · rw [hnL_no h]; exact Nat.zero_le _
def Vk (w : World) (e : Ending) (w' : World) : Prop :=
  ∃ (sa : Option Addr) (cap : Nat) (l : List Rv), e = .returned (.slice sa l.length cap) ∧ RowV w.heap.size w' sa cap l ∧ l.length ≤ 6 ∧ Ext w w'
def VIk (w : World) (e : Ending) (w' : World) : Prop :=
  ∃ (sa : Option Addr) (cap : Nat) (l : List Rv) (a : Int), e = .returned (.tuple #[.slice sa l.length cap, .int .i64 a]) ∧ RowV w.heap.size w' sa cap l ∧ l.length ≤ 6 ∧ 0 ≤ a ∧ a ≤ 50001 ∧ Ext w w'
theorem equalInts_yes (sa sb : Option Addr) (a : List Int) (na ca cb : Nat) (w : World) (ha : Lst w sa a) (hb : Lst w sb a) (hn : a.length = na) (la : na ≤ 2000000) :
    Calls Try.prog 13 #[.slice sa na ca, .slice sb na cb] w (EqRet true w) := by
  subst hn
  exact (equalInts_any sa sb a a ca cb w ha hb la la).mono fun e w' ⟨he, hb⟩ => ⟨by rw [he]; simp, hb⟩
set_option maxHeartbeats 400000 in
theorem isIn_any (sa : Option Addr) (cap n : Nat) (l : List Int) (x : Int) (w : World) (h : Lst w sa l) (hn : l.length = n) (hl : n ≤ 2000000) :
    Calls Try.prog 15 #[.slice sa n cap, .int .i64 x] w (Same (.bool (decide (x ∈ l))) w) := by
  subst hn
  have H := hide h; clear h
  go_enter Try.func15, Try.ntmps15
  go_wp2
  go_loop [5] (fun i => ∃ c : Nat, c ≤ l.length ∧ i = .int .i64 c ∧ Hid (x ∉ l.take c)) (fun i => l.length - (intOf i).toNat)
  case atStart => exact ⟨0, Nat.zero_le _, rfl, show _ ∉ _ by simp⟩
  case round =>
    obtain ⟨c, hc, rfl, HN⟩ := hrel
    by_cases hlt : c < l.length
    · obtain ⟨g, off, rfl, hg, c1⟩ := H.out.at hlt
      by_cases he : l.getD c 0 = x
      · have HF := hide (show true = decide (x ∈ l) from (decide_eq_true (by rw [← he]; exact getD_mem hlt)).symm)
        rw [he] at c1
        clear he
        go_wp2
        go_ret
        exact Same.bool HF.out
      · have HN2 := hide (show x ∉ l.take (c + 1) by
          rw [take_snoc l c hlt, List.mem_append, List.mem_singleton]
          rintro (h | h)
          · exact HN.out h
          · exact he h.symm)
        obtain ⟨y, hy⟩ : ∃ y, y = l.getD c 0 := ⟨_, rfl⟩; rw [← hy] at c1 he
        have hd : ((y : Int) == x) = false := by rw [beq_eq_false_iff_ne]; exact he
        clear hy he
        go_wp2
        go_round
        case rel => exact ⟨c + 1, by omega, by go_num, HN2⟩
        case measure => simp [intOf]; omega
    · have HF := hide (show false = decide (x ∈ l) by
        have := HN.out; rw [List.take_of_length_le (by omega)] at this; exact (decide_eq_false this).symm)
      go_wp2
      go_ret
      exact Same.bool HF.out
set_option maxHeartbeats 400000 in
theorem ascends_yes (sa : Option Addr) (cap n : Nat) (l : List Int) (w : World) (h : Lst w sa l) (hn : l.length = n) (hl : n ≤ 2000000) (hasc : ∀ c, c + 1 < l.length → l.getD c 0 < l.getD (c + 1) 0) :
    Calls Try.prog 17 #[.slice sa n cap] w (Ret (.bool true) w) := by
  subst hn
  have H := hide h; clear h
  have HA := hide hasc; clear hasc
  go_enter Try.func17, Try.ntmps17
  go_wp2
  go_loopw [3] (fun i wr => ∃ c : Nat, i = .int .i64 ((c : Int) + 1) ∧ c ≤ l.length ∧ Ext w wr) (fun i _ => l.length + 1 - (intOf i).toNat)
  case atStart => exact ⟨0, rfl, Nat.zero_le _, Ext.refl _⟩
  case round =>
    obtain ⟨c, rfl, hc, hE⟩ := hrel
    by_cases hlt : c + 1 < l.length
    · obtain ⟨g, off, rfl, hg, e1⟩ := (H.out.ext hE).at hlt
      obtain ⟨g2, off2, e9, hg2, e2⟩ := (H.out.ext hE).at (k := c) (by omega)
      cases e9
      have hxy := HA.out c hlt
      obtain ⟨y, hy⟩ : ∃ y, y = l.getD (c + 1) 0 := ⟨_, rfl⟩; rw [← hy] at e1 hxy
      obtain ⟨x, hx⟩ : ∃ x, x = l.getD c 0 := ⟨_, rfl⟩; rw [← hx] at e2 hxy
      have hd : decide (y ≤ x) = false := decide_eq_false (by omega)
      have hc1 : decide ((c : Int) + 1 < (l.length : Int)) = true := decide_eq_true (by omega)
      have hb0 : (0 : Int) ≤ (c : Int) + 1 := by omega
      have hb1 : (c : Int) + 1 < (l.length : Int) := by omega
      have hb2 : (c : Int) < (l.length : Int) := by omega
      have r1 := cell_regrown e1
      have r2 := cell_regrown e2
      clear hy hx hxy
      go_wp2
      refine wp_region_quiet_below (by kernel_rfl) (by kernel_rfl) ?_
      repeat (go_big_quiet_step (fail))
      refine wpQuiet_nil ?_; intro w9 hq; have E9 := Ext.class hq; clear hq
      go_wp2
      go_roundw
      case rel => exact ⟨c + 1, by go_num, by omega, hE.trans E9⟩
      case measure => simp [intOf]; omega
    · have hc1 : decide ((c : Int) + 1 < (l.length : Int)) = false := decide_eq_false (by omega)
      go_wp2
      go_ret
      exact Ret.bool rfl hE
set_option maxHeartbeats 800000 in
theorem dDrawHonest (sa : Option Addr) (len cap : Nat) (w : World) (h : Code w sa len cap) (hl : len ≤ maxLen) :
    Calls Try.prog 11 #[.slice sa len cap] w (Vk w) := by
  go_enter Try.func11, Try.ntmps11
  go_wp2_with fail
  refine (newReader_any _ _ _ _ h hl).mono ?_
  rintro e w1 ⟨rfl, hr1, hb1, hs1⟩
  have hE1 : Ext w w1 := Ext.of hb1
  have hz1 : w.heap.size ≤ w1.heap.size := hE1.size
  have hgl := hr1.lt
  have hB1 := But.of_below (g := w.heap.size) hE1
  clear hb1 hs1 h
  go_wp2_with fail
  refine (someReveals_any _ _ _ _ hr1 (by omega)).mono ?_
  rintro e w2 ⟨sl, cl, l, rfl, RRl, nl, ⟨q2, hq2, hr2⟩, hb2⟩
  have hB2 := hB1.trans hb2
  have hzl : w.heap.size ≤ w1.heap.size := hB1.size
  have hgl : w.heap.size < w1.heap.size := hr1.lt
  have Rl := RRl
  clear hr1 hb2 hB1 RRl
  have EE := Ext.of (hB2.to_below (B := w.heap.size) (Nat.le_refl _) (Nat.le_refl _))
  go_wp2
  go_ret
  exact ⟨sl, cl, l, rfl, Rl.le hzl, nl, EE⟩
set_option maxHeartbeats 800000 in
theorem dDrawDrawOf (sa : Option Addr) (len cap : Nat) (w : World) (h : Code w sa len cap) (hl : len ≤ maxLen) :
    Calls Try.prog 18 #[.slice sa len cap] w (VIk w) := by
  go_enter Try.func18, Try.ntmps18
  go_wp2_with fail
  refine (newReader_any _ _ _ _ h hl).mono ?_
  rintro e w1 ⟨rfl, hr1, hb1, hs1⟩
  have hE1 : Ext w w1 := Ext.of hb1
  have hz1 : w.heap.size ≤ w1.heap.size := hE1.size
  have hgl := hr1.lt
  have hB1 := But.of_below (g := w.heap.size) hE1
  clear hb1 hs1 h
  go_wp2_with fail
  refine (someReveals_any _ _ _ _ hr1 (by omega)).mono ?_
  rintro e w2 ⟨sl, cl, l, rfl, RRl, nl, ⟨q2, hq2, hr2⟩, hb2⟩
  have hB2 := hB1.trans hb2
  have hzl : w.heap.size ≤ w1.heap.size := hB1.size
  have hgl : w.heap.size < w1.heap.size := hr1.lt
  have Rl := RRl
  clear hr1 hb2 hB1 RRl
  go_wp2_with fail
  refine (one_at _ _ _ [6, 4, 1, 12, 50000, 0, 50001] (0) (50001) _ _ _ w2 rfl rfl hr2 (by omega) (by simp) (by simp) (by intro z hz; simp at hz; omega)).mono ?_
  rintro e w4 ⟨a, rfl, a0, a1, hr4, hb4, hs4⟩
  have hb4 := ((But.refl w.heap.size w2).alloc _).trans hb4
  have hB4 := hB2.trans hb4
  have Rl := Rl.but hb4 hgl
  clear hr2 hb4 hs4 hB2
  have EE := Ext.of (hB4.to_below (B := w.heap.size) (Nat.le_refl _) (Nat.le_refl _))
  go_wp2
  refine bodyPost_ret (v := .tuple #[.slice sl l.length cl, .int .i64 a]) (by simp [results, Try.results18, go_sem]) rfl ?_
  exact ⟨sl, cl, l, a, rfl, Rl.le hzl, nl, by omega, by omega, EE⟩
set_option maxHeartbeats 800000 in
theorem dDrawDrawOrder (sa : Option Addr) (len cap : Nat) (w : World) (h : Code w sa len cap) (hl : len ≤ maxLen) :
    Calls Try.prog 21 #[.slice sa len cap] w (VIk w) := by
  go_enter Try.func21, Try.ntmps21
  go_wp2_with fail
  refine (newReader_any _ _ _ _ h hl).mono ?_
  rintro e w1 ⟨rfl, hr1, hb1, hs1⟩
  have hE1 : Ext w w1 := Ext.of hb1
  have hz1 : w.heap.size ≤ w1.heap.size := hE1.size
  have hgl := hr1.lt
  have hB1 := But.of_below (g := w.heap.size) hE1
  clear hb1 hs1 h
  go_wp2_with fail
  refine (someReveals_any _ _ _ _ hr1 (by omega)).mono ?_
  rintro e w2 ⟨sl, cl, l, rfl, RRl, nl, ⟨q2, hq2, hr2⟩, hb2⟩
  have hB2 := hB1.trans hb2
  have hzl : w.heap.size ≤ w1.heap.size := hB1.size
  have hgl : w.heap.size < w1.heap.size := hr1.lt
  have Rl := RRl
  clear hr1 hb2 hB1 RRl
  go_wp2_with fail
  refine (one_at _ _ _ [4, 3, 5, 1, 8, 0, 9] (0) (50001) _ _ _ w2 rfl rfl hr2 (by omega) (by simp) (by simp) (by intro z hz; simp at hz; omega)).mono ?_
  rintro e w4 ⟨a, rfl, a0, a1, hr4, hb4, hs4⟩
  have hb4 := ((But.refl w.heap.size w2).alloc _).trans hb4
  have hB4 := hB2.trans hb4
  have Rl := Rl.but hb4 hgl
  clear hr2 hb4 hs4 hB2
  have EE := Ext.of (hB4.to_below (B := w.heap.size) (Nat.le_refl _) (Nat.le_refl _))
  go_wp2
  refine bodyPost_ret (v := .tuple #[.slice sl l.length cl, .int .i64 a]) (by simp [results, Try.results21, go_sem]) rfl ?_
  exact ⟨sl, cl, l, a, rfl, Rl.le hzl, nl, by omega, by omega, EE⟩
set_option maxRecDepth 100000 in
set_option maxHeartbeats 1600000 in
theorem walkFnHonest (w : World) (sa : Option Addr) (len cap : Nat) (h : Code w sa len cap) (hl : len ≤ maxLen) :
    Calls Try.prog 3 #[.slice sa len cap] w fun e w' => e = .returned (.bool true) ∧ Below w.heap.size w w' := by
  have hl' := hl
  unfold maxLen at hl'
  by_cases hbig : 1048576 < len
  · clear h hl
    go_enter Try.func3, Try.ntmps3
    go_wp2
    go_ret
    exact ⟨rfl, Below.refl _ _⟩
  go_enter Try.func3, Try.ntmps3
  go_wp2_with fail
  refine (dDrawHonest sa len cap w h hl).mono ?_
  rintro e w1 ⟨sl, cl, l, rfl, RA, na, E1⟩
  clear h hl hl' hbig
  have HL := hide RA.rst
  clear RA
  have HP1 := hide (fun w2 (e : Ext w1 w2) => implHonest sl cl l w2 (HL.out.ext e) (by omega))
  have HP2 := hide (fun w2 (e : Ext w1 w2) => specHonest sl cl l w2 (HL.out.ext e) (by omega))
  have hol := hnL_len l
  by_cases h0 : 0 < (hnL l).length
  · obtain ⟨hm, hcm, has⟩ := hn_facts h0
    have HM := hide hm
    have HCM := hide hcm
    have HAS := hide has
    clear hm hcm has
    obtain ⟨o, ho⟩ : ∃ o, o = hnL l := ⟨_, rfl⟩; rw [← ho] at HP1 HP2 hol HM HAS h0
    have hne0 : ((o.length : Int) == 0) = false := by rw [beq_eq_false_iff_ne]; omega
    clear ho
    go_wp2_with fail; refine (HP1.out _ (Ext.refl _)).mono ?_; rintro e w2 ⟨s2, c2, rfl, R2, hb2⟩
    have E2 := Ext.of hb2; clear hb2
    go_wp2_with fail; refine (HP2.out _ E2).mono ?_; rintro e w3 ⟨s3, c3, rfl, R3, hb3⟩
    have E3 := Ext.of hb3; clear hb3
    go_wp2_with fail; refine (equalInts_yes s2 s3 o o.length c2 c3 _ (R2.lst.ext E3) R3.lst rfl (by omega)).mono ?_; rintro e w4 ⟨rfl, hb4⟩
    have E4 := Ext.of hb4; clear hb4
    have E24 := E3.trans E4
    have HL2 := hide (R2.lst.ext E24)
    have E14 := E2.trans E24
    clear R2 R3
    go_wp2
    go_loopw [5] (fun i wr => ∃ k : Nat, k ≤ l.length ∧ i = .int .i64 k ∧ Ext w4 wr) (fun i _ => l.length - (intOf i).toNat)
    case atStart => exact ⟨0, Nat.zero_le _, rfl, Ext.refl _⟩
    case round =>
      obtain ⟨k, hk, rfl, hE⟩ := hrel
      by_cases hlt : k < l.length
      · have hki : (k : Int) < (l.length : Int) := by omega
        obtain ⟨g, off, rfl, hg, q0, q1, q2⟩ := (HL.out.ext (E14.trans hE)).at hlt
        have HIN := hide (fun w5 (e : Ext w4 w5) => isIn_any s2 c2 o.length o k w5 (HL2.out.ext e) rfl (by omega))
        rw [HM.out k hlt] at HIN
        have HCK := hide (fun w5 => implCommit (l.getD k Rv.z).v (l.getD k Rv.z).s w5)
        rw [HCM.out k hlt] at HCK
        obtain ⟨bb, hbb⟩ : ∃ bb, bb = hnB (l.getD k Rv.z) := ⟨_, rfl⟩
        have hbe : (cmt (l.getD k Rv.z).v (l.getD k Rv.z).s == (l.getD k Rv.z).c) = bb := by rw [hbb]; rfl
        rw [← hbb] at HIN
        clear hbb
        obtain ⟨m, hm⟩ : ∃ m, m = cmt (l.getD k Rv.z).v (l.getD k Rv.z).s := ⟨_, rfl⟩; rw [← hm] at HCK hbe
        clear hm
        obtain ⟨c, hc⟩ : ∃ c, c = (l.getD k Rv.z).c := ⟨_, rfl⟩; rw [← hc] at q0 hbe
        obtain ⟨v, hv⟩ : ∃ v, v = (l.getD k Rv.z).v := ⟨_, rfl⟩; rw [← hv] at q1 HCK
        obtain ⟨s, hs⟩ : ∃ s, s = (l.getD k Rv.z).s := ⟨_, rfl⟩; rw [← hs] at q2 HCK
        clear hc hv hs
        have r0 := cell_regrown q0
        have r1 := cell_regrown q1
        have r2 := cell_regrown q2
        clear q0 q1 q2
        have hnn : (bb != bb) = false := by cases bb <;> rfl
        rcases bb with _ | _
        · go_wp2
          refine wp_region_quiet_below (by kernel_rfl) (by kernel_rfl) ?_
          repeat (go_big_quiet_step ((first | (go_at_call 15; exact Same.quiet (HIN.out _ (hE.trans (below_regrown _ _ _)))) | (go_at_call 16; exact Same.quiet (HCK.out _)))))
          refine wpQuiet_nil ?_; intro w9 hq; have E9 := Ext.class hq; clear hq
          go_wp2
          go_roundw
          case rel => exact ⟨k + 1, by omega, by go_num, hE.trans E9⟩
          case measure => (first | (simp [intOf]; done) | (simp [intOf]; omega))
        · go_wp2
          refine wp_region_quiet_below (by kernel_rfl) (by kernel_rfl) ?_
          repeat (go_big_quiet_step ((first | (go_at_call 15; exact Same.quiet (HIN.out _ (hE.trans (below_regrown _ _ _)))) | (go_at_call 16; exact Same.quiet (HCK.out _)))))
          refine wpQuiet_nil ?_; intro w9 hq; have E9 := Ext.class hq; clear hq
          go_wp2
          go_roundw
          case rel => exact ⟨k + 1, by omega, by go_num, hE.trans E9⟩
          case measure => (first | (simp [intOf]; done) | (simp [intOf]; omega))
      · have hki : decide ((k : Int) < (l.length : Int)) = false := decide_eq_false (by omega)
        go_wp2_with fail; refine (ascends_yes s2 c2 o.length o _ (HL2.out.ext hE) rfl (by omega) HAS.out).mono ?_; rintro e w6 ⟨rfl, E6⟩
        go_wp2
        go_ret
        exact ⟨rfl, E1.trans (E14.trans (hE.trans E6))⟩
  · have hn0 : hnL l = [] := List.length_eq_zero_iff.1 (by omega)
    rw [hn0] at HP1 HP2
    clear hn0 h0 hol
    go_wp2_with fail; refine (HP1.out _ (Ext.refl _)).mono ?_; rintro e w2 ⟨s2, c2, rfl, R2, hb2⟩
    have E2 := Ext.of hb2; clear hb2
    go_wp2_with fail; refine (HP2.out _ E2).mono ?_; rintro e w3 ⟨s3, c3, rfl, R3, hb3⟩
    have E3 := Ext.of hb3; clear hb3
    go_wp2_with fail; refine (equalInts_yes s2 s3 [] 0 c2 c3 _ (.inl rfl) (.inl rfl) rfl (by omega)).mono ?_; rintro e w4 ⟨rfl, hb4⟩
    have E4 := Ext.of hb4; clear hb4
    have E14 := E2.trans (E3.trans E4)
    go_wp2_with fail; refine (HP2.out _ E14).mono ?_; rintro e w5 ⟨s5, c5, rfl, R5, hb5⟩
    have E5 := Ext.of hb5; clear hb5
    go_wp2_with fail; refine (equalInts_yes s2 s5 [] 0 c2 c5 _ (.inl rfl) (.inl rfl) rfl (by omega)).mono ?_; rintro e w6 ⟨rfl, hb6⟩
    have E6 := Ext.of hb6; clear hb6
    go_wp2
    go_ret
    exact ⟨rfl, E1.trans (E14.trans (E5.trans E6))⟩
end Go.Proofs.Ytgmhodmgbhpdaad
