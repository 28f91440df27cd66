/- Chapter 2: least coalitions: contracts. -/
import Derived.Test.YtjdfdikifiljjabOrders
import Derived.Test.YtjdfdikifiljjabMat
namespace Go.Proofs.Ytjdfdikifiljjab
open Go.ChangeShapes Go.WideShapes Go.ChangeAt Go.RowKit Go.Joins Go.Sort
set_option linter.unusedVariables false

def minus (s i : Nat) : Nat := s - 2 ^ i
theorem bit_le {s i : Nat} (h : s.testBit i = true) : 2 ^ i ≤ s := Nat.ge_two_pow_of_testBit h
theorem minus_bit {s i : Nat} (h : s.testBit i = true) : (minus s i).testBit i = false := by
  unfold minus
  rw [Nat.testBit_eq_decide_div_mod_eq, decide_eq_true_eq] at h
  rw [Nat.testBit_eq_decide_div_mod_eq, decide_eq_false_iff_not]
  have e := Nat.sub_mul_div s (2 ^ i) 1
  rw [Nat.mul_one] at e
  rw [e]; omega
theorem minus_plus {s i : Nat} (h : s.testBit i = true) : minus s i + 2 ^ i = s := Nat.sub_add_cancel (bit_le h)
theorem wt_minus {l : List Int} {s i : Nat} (h : s.testBit i = true) (hi : i < l.length) : wt l (minus s i) = wt l s - l.getD i 0 := by
  have := wt_add l (minus s i) i (minus_bit h) hi
  rw [minus_plus h] at this; omega
theorem minus_le {s i b : Nat} (hs : s ≤ b) : minus s i ≤ b := Nat.le_trans (Nat.sub_le _ _) hs
theorem wrap_minus {s i : Nat} (hs : s ≤ 1000) (h : s.testBit i = true) : IntKind.i64.wrap ((s : Int) - (pw i : Int)) = (minus s i : Int) := by
  have h1 := bit_le h
  have e : (minus s i : Int) = (s : Int) - (pw i : Int) := by unfold minus pw; rw [Int.ofNat_sub h1]
  rw [← e]
  have : minus s i ≤ 1000 := minus_le hs
  exact IntWalk.i64_in _ (by omega)
/-- a set wins, and no member less does -/
def leastB (l : List Int) (need : Int) (s : Nat) : Bool := decide (need ≤ wt l s ∧ ∀ i, i < l.length → s.testBit i = true → wt l s - l.getD i 0 < need)
theorem leastB_iff {l : List Int} {need : Int} {s : Nat} : leastB l need s = true ↔ need ≤ wt l s ∧ ∀ i, i < l.length → s.testBit i = true → wt l s - l.getD i 0 < need := by unfold leastB; simp only [decide_eq_true_eq]
theorem leastB_no {l : List Int} {need : Int} {s : Nat} (h : ¬ (need ≤ wt l s ∧ ∀ i, i < l.length → s.testBit i = true → wt l s - l.getD i 0 < need)) : leastB l need s = false := decide_eq_false h
def lcK (l : List Int) (need : Int) : Nat → List (List Int)
  | 0 => []
  | S + 1 => lcK l need S ++ if leastB l need S then [mems S] else []
theorem lcK_yes {l : List Int} {need : Int} {S : Nat} (h : leastB l need S = true) : lcK l need S ++ [mems S] = lcK l need (S + 1) := by show _ = lcK l need S ++ _; rw [if_pos h]
theorem lcK_no {l : List Int} {need : Int} {S : Nat} (h : leastB l need S = false) : lcK l need S = lcK l need (S + 1) := by show _ = lcK l need S ++ _; rw [if_neg (by rw [h]; simp), List.append_nil]
theorem lcK_nil {l : List Int} {need : Int} : lcK l need 0 = [] := rfl
theorem lcK_len (l : List Int) (need : Int) (S : Nat) : (lcK l need S).length ≤ S := by
  induction S with
  | zero => simp [lcK]
  | succ S ih => unfold lcK; rw [List.length_append]; split <;> simp <;> omega
theorem lcK_row (l : List Int) (need : Int) (S : Nat) : ∀ r ∈ lcK l need S, r.length ≤ 20 := by
  induction S with
  | zero => intro r hr; simp [lcK] at hr
  | succ S ih =>
    intro r hr
    unfold lcK at hr
    rw [List.mem_append] at hr
    rcases hr with hr | hr
    · exact ih r hr
    · split at hr
      · rw [List.mem_singleton] at hr; rw [hr]; exact mems_len S
      · simp at hr
attribute [irreducible] lcK
def lcL (l : List Int) (need : Int) : List (List Int) := if sb l need = true then lcK l need (2 ^ l.length) else []
theorem getD_memL {ll : List (List Int)} {i : Nat} (h : i < ll.length) : ll.getD i [] ∈ ll := by
  rw [List.getD_eq_getElem?_getD, List.getElem?_eq_getElem h]; exact List.getElem_mem _
theorem offs_bd {ll : List (List Int)} {n : Nat} (h : ∀ r ∈ ll, r.length ≤ n) : ∀ i, i ≤ ll.length → offs ll i ≤ n * i := by
  intro i
  induction i with
  | zero => intro _; simp [offs]
  | succ i ih =>
    intro hi
    have h1 := ih (by omega)
    have h2 := h _ (getD_memL (show i < ll.length by omega))
    unfold offs
    rw [Nat.mul_add]; omega
theorem ll_bd {ll : List (List Int)} (hl : ll.length ≤ 256) (hr : ∀ r ∈ ll, r.length ≤ 20) : ll.length ≤ 256 ∧ (∀ i, i < ll.length → (ll.getD i []).length ≤ 20) ∧ ∀ i, i ≤ ll.length → offs ll i ≤ 1100000 :=
  ⟨hl, fun i hi => hr _ (getD_memL hi), fun i hi => by have := offs_bd hr i hi; omega⟩
theorem lcL_bd (l : List Int) (need : Int) : (lcL l need).length ≤ 256 ∧ (∀ i, i < (lcL l need).length → ((lcL l need).getD i []).length ≤ 20) ∧ ∀ i, i ≤ (lcL l need).length → offs (lcL l need) i ≤ 1100000 := by
  by_cases hv : sb l need = true
  · rw [show lcL l need = lcK l need (2 ^ l.length) from if_pos hv]
    have h8 : 2 ^ l.length ≤ 256 := pow8 (sb_iff.1 hv).2
    generalize 2 ^ l.length = m at h8
    exact ll_bd (Nat.le_trans (lcK_len l need m) h8) (lcK_row l need m)
  · rw [show lcL l need = [] from if_neg hv]
    exact ll_bd (Nat.zero_le _) (fun r h => absurd h List.not_mem_nil)
/-- what a call answers that makes a list of lists -/
def RetMat (ll : List (List Int)) (w : World) (e : Ending) (w' : World) : Prop :=
  ∃ sa cap hs, e = .returned (.slice sa ll.length cap) ∧ Mat w.heap.size w' sa cap ll hs ∧ Ext w w'
theorem RetMat.of {ll o : List (List Int)} {w w' : World} {sa : Option Addr} {cap base : Nat} {hs : Heads} (h : ll = o) (hr : Mat base w' sa cap o hs) (hb : w.heap.size ≤ base) (e : Ext w w') : RetMat ll w (.returned (.slice sa o.length cap)) w' := by
  subst h; exact ⟨sa, cap, hs, rfl, hr.le hb, e⟩
theorem len_snocL (o : List (List Int)) (x : List Int) : o.length + 1 = (o ++ [x]).length := by simp

set_option maxHeartbeats 1000000 in
theorem implLeast (sa : Option Addr) (cap : Nat) (l : List Int) (need : Int) (s : Nat) (w : World) (h : Lst w sa l) (hl : l.length ≤ 12) (hx : ∀ x ∈ l, 0 ≤ x ∧ x ≤ 100) (hn0 : 0 ≤ need) (hn1 : need ≤ 2000) (hs : s ≤ 1000) :
    Calls Try.prog 67 #[.agg #[.slice sa l.length cap, .int .i64 need], .int .i64 s] w (Ret (.bool (leastB l need s)) w) := by
  have H := hide (h.ext ((Ext.refl w).alloc (.cells #[.slice sa l.length cap, .int .i64 need] 28)))
  have X0 := (Box.new w #[.slice sa l.length cap, .int .i64 need] 28)
  clear h
  obtain ⟨r0, r1⟩ := X0.reads (Ext.refl _)
  have hb := wt_bd l s hx
  have HX := hide hx; clear hx
  have hw : IntKind.i64.wrap (wt l s - need) = wt l s - need := IntWalk.i64_in _ (by omega)
  go_enter Try.func67, Try.ntmps67
  go_wp2
  refine wp_region_quiet_below (by kernel_rfl) (by kernel_rfl) ?_
  repeat (go_big_quiet_step ((first | (go_at_call 79; exact Ret.quiet (implVotes _ _ l need s _ (H.out.ext (below_regrown _ _ _)) hl HX.out (by omega))))))
  refine wpQuiet_nil ?_; intro w1 hq; have E1 := Ext.class hq; clear hq
  clear hw r0 r1
  obtain ⟨c0, c1, _, _⟩ := (X0.keep E1).two
  have EA := ((Ext.refl w).alloc (.cells #[.slice sa l.length cap, .int .i64 need] 28)).trans E1
  have H1 := hide (H.out.ext E1)
  by_cases hsp : wt l s - need < 0
  · have hd : decide (wt l s - need < 0) = true := decide_eq_true hsp
    have HF := hide (leastB_no (l := l) (need := need) (s := s) fun h => by have := h.1; omega)
    go_wp2
    go_ret
    exact Ret.bool HF.out.symm EA
  · have hd : decide (wt l s - need < 0) = false := decide_eq_false hsp
    go_wp2
    go_loop [19] (fun i => ∃ c : Nat, c ≤ l.length ∧ i = .int .i64 c ∧ Hid (∀ j, j < c → s.testBit j = true → wt l s - l.getD j 0 < need)) (fun i => l.length - (intOf i).toNat)
    case atStart => exact ⟨0, Nat.zero_le _, rfl, (show ∀ j, j < 0 → _ from fun j hj => by omega)⟩
    case round =>
      obtain ⟨c, hc, rfl, HT⟩ := hrel
      by_cases hlt : c < l.length
      · obtain ⟨g, off, rfl, hg, c2⟩ := H1.out.at hlt
        by_cases hbit : s.testBit c = true
        · by_cases hle : l.getD c 0 ≤ wt l s - need
          · have HF := hide (leastB_no (l := l) (need := need) (s := s) fun h => by have := h.2 c hlt hbit; omega)
            obtain ⟨x, hx2⟩ : ∃ x, x = l.getD c 0 := ⟨_, rfl⟩; rw [← hx2] at c2 hle
            have hd2 : decide (x ≤ wt l s - need) = true := decide_eq_true hle
            clear hx2
            go_wp2_with fail; refine (implHas s c _ (by omega) (by omega)).mono ?_; rintro e w' ⟨rfl, rfl⟩
            go_wp2
            go_ret
            exact Ret.bool HF.out.symm EA
          · have HT2 := hide (show ∀ j, j < c + 1 → s.testBit j = true → wt l s - l.getD j 0 < need from fun j hj hb => by
              by_cases e : j = c
              · subst e; omega
              · exact HT.out j (by omega) hb)
            obtain ⟨x, hx2⟩ : ∃ x, x = l.getD c 0 := ⟨_, rfl⟩; rw [← hx2] at c2 hle
            have hd2 : decide (x ≤ wt l s - need) = false := decide_eq_false hle
            clear hx2
            go_wp2_with fail; refine (implHas s c _ (by omega) (by omega)).mono ?_; rintro e w' ⟨rfl, rfl⟩
            go_wp2
            go_round
            case rel => exact ⟨c + 1, by omega, by go_num, HT2⟩
            case measure => simp [intOf]; omega
        · have HT2 := hide (show ∀ j, j < c + 1 → s.testBit j = true → wt l s - l.getD j 0 < need from fun j hj hb => by
            by_cases e : j = c
            · subst e; exact absurd hb hbit
            · exact HT.out j (by omega) hb)
          rw [Bool.not_eq_true] at hbit
          obtain ⟨x, hx2⟩ : ∃ x, x = l.getD c 0 := ⟨_, rfl⟩; rw [← hx2] at c2
          clear hx2
          go_wp2_with fail; refine (implHas s c _ (by omega) (by omega)).mono ?_; rintro e w' ⟨rfl, rfl⟩
          go_wp2
          go_round
          case rel => exact ⟨c + 1, by omega, by go_num, HT2⟩
          case measure => simp [intOf]; omega
      · obtain rfl : c = l.length := by omega
        have HF := hide (leastB_iff.2 ⟨show need ≤ wt l s by omega, HT.out⟩)
        go_wp2
        go_ret
        exact Ret.bool HF.out.symm EA
set_option maxHeartbeats 1000000 in
theorem specLeast (sa : Option Addr) (cap : Nat) (l : List Int) (need : Int) (s : Nat) (w : World) (h : Lst w sa l) (hl : l.length ≤ 12) (hx : ∀ x ∈ l, 0 ≤ x ∧ x ≤ 100) (hs : s ≤ 1000) :
    Calls Try.prog 63 #[.agg #[.slice sa l.length cap, .int .i64 need], .int .i64 s] w (Ret (.bool (leastB l need s)) w) := by
  have H := hide (h.ext ((Ext.refl w).alloc (.cells #[.slice sa l.length cap, .int .i64 need] 28)))
  have X0 := (Box.new w #[.slice sa l.length cap, .int .i64 need] 28)
  clear h
  have HX := hide hx; clear hx
  by_cases hwin : winB l need s = true
  · have hw2 := of_decide_eq_true hwin
    go_enter Try.func63, Try.ntmps63
    go_wp2_with fail; refine (Ret.eqB (specWin _ _ l need s _ H.out hl HX.out (by omega)) hwin).mono ?_; rintro e w1 ⟨rfl, E1⟩
    have X1 := X0.keep E1
    have EA := ((Ext.refl w).alloc (.cells #[.slice sa l.length cap, .int .i64 need] 28)).trans E1
    have H1 := hide (H.out.ext E1)
    clear E1
    go_wp2
    go_loopw [5] (fun i wr => ∃ c : Nat, c ≤ l.length ∧ i = .int .i64 c ∧ Hid (∀ j, j < c → s.testBit j = true → wt l s - l.getD j 0 < need) ∧ Ext w1 wr) (fun i _ => l.length - (intOf i).toNat)
    case atStart => exact ⟨0, Nat.zero_le _, rfl, (show ∀ j, j < 0 → _ from fun j hj => by omega), Ext.refl _⟩
    case round =>
      obtain ⟨c, hc, rfl, HT, hE⟩ := hrel
      obtain ⟨c0, c1, _, _⟩ := (X1.keep hE).two
      by_cases hlt : c < l.length
      · obtain ⟨r0, r1⟩ := X1.reads hE
        by_cases hbit : s.testBit c = true
        · have hm := hide (wt_minus hbit hlt)
          have hwm := wrap_minus hs hbit
          have hmb : minus s c ≤ 1000 := minus_le hs
          by_cases hle : need ≤ wt l (minus s c)
          · have HF := hide (leastB_no (l := l) (need := need) (s := s) fun h => by have := h.2 c hlt hbit; rw [hm.out] at hle; omega)
            have hd2 : winB l need (minus s c) = true := decide_eq_true hle
            go_wp2
            refine wp_region_quiet_below (by kernel_rfl) (by kernel_rfl) ?_
            repeat (go_big_quiet_step ((first | (go_at_call 98; exact Same.quiet (Same.eqB (specHas s c _ (by omega) (by omega)) hbit)) | (go_at_call 62; exact Same.quiet (specPower c _ (by omega))) | (go_at_call 83; exact Ret.quiet (specWin _ _ l need _ _ (H1.out.ext (hE.trans (below_regrown _ _ _))) hl HX.out (by omega))))))
            refine wpQuiet_nil ?_; intro w2 hq; have E2 := Ext.class hq; clear hq
            go_wp2
            go_ret
            exact Ret.bool HF.out.symm (EA.trans (hE.trans E2))
          · have HT2 := hide (show ∀ j, j < c + 1 → s.testBit j = true → wt l s - l.getD j 0 < need from fun j hj hb => by
              by_cases e : j = c
              · subst e; rw [hm.out] at hle; omega
              · exact HT.out j (by omega) hb)
            have hd2 : winB l need (minus s c) = false := decide_eq_false hle
            go_wp2
            refine wp_region_quiet_below (by kernel_rfl) (by kernel_rfl) ?_
            repeat (go_big_quiet_step ((first | (go_at_call 98; exact Same.quiet (Same.eqB (specHas s c _ (by omega) (by omega)) hbit)) | (go_at_call 62; exact Same.quiet (specPower c _ (by omega))) | (go_at_call 83; exact Ret.quiet (specWin _ _ l need _ _ (H1.out.ext (hE.trans (below_regrown _ _ _))) hl HX.out (by omega))))))
            refine wpQuiet_nil ?_; intro w2 hq; have E2 := Ext.class hq; clear hq
            clear hwm
            go_wp2
            go_roundw
            case rel => exact ⟨c + 1, by omega, by go_num, HT2, hE.trans E2⟩
            case measure => simp [intOf]; omega
        · have HT2 := hide (show ∀ j, j < c + 1 → s.testBit j = true → wt l s - l.getD j 0 < need from fun j hj hb => by
            by_cases e : j = c
            · subst e; exact absurd hb hbit
            · exact HT.out j (by omega) hb)
          rw [Bool.not_eq_true] at hbit
          go_wp2
          refine wp_region_quiet_below (by kernel_rfl) (by kernel_rfl) ?_
          repeat (go_big_quiet_step ((first | (go_at_call 98; exact Same.quiet (Same.eqB (specHas s c _ (by omega) (by omega)) hbit)))))
          refine wpQuiet_nil ?_; intro w2 hq; have E2 := Ext.class hq; clear hq
          go_wp2
          go_roundw
          case rel => exact ⟨c + 1, by omega, by go_num, HT2, hE.trans E2⟩
          case measure => simp [intOf]; omega
      · obtain rfl : c = l.length := by omega
        have HF := hide (leastB_iff.2 ⟨hw2, HT.out⟩)
        go_wp2
        go_ret
        exact Ret.bool HF.out.symm (EA.trans hE)
  · have HF := hide (leastB_no (l := l) (need := need) (s := s) fun h => hwin (decide_eq_true h.1))
    rw [Bool.not_eq_true] at hwin
    go_enter Try.func63, Try.ntmps63
    go_wp2_with fail; refine (Ret.eqB (specWin _ _ l need s _ H.out hl HX.out (by omega)) hwin).mono ?_; rintro e w1 ⟨rfl, E1⟩
    go_wp2
    go_ret
    exact Ret.bool HF.out.symm (((Ext.refl w).alloc _).trans E1)
set_option maxHeartbeats 2000000 in
theorem implLeastC (sa : Option Addr) (cap : Nat) (l : List Int) (need : Int) (w : World) (h : Lst w sa l) (hl : l.length ≤ 2000000) :
    Calls Try.prog 20 #[.agg #[.slice sa l.length cap, .int .i64 need]] w (RetMat (lcL l need) w) := by
  have H := hide (h.ext ((Ext.refl w).alloc (.cells #[.slice sa l.length cap, .int .i64 need] 28)))
  have X0 := (Box.new w #[.slice sa l.length cap, .int .i64 need] 28)
  clear h
  by_cases hv : sb l need = true
  · have HF := hide (show lcL l need = lcK l need (2 ^ l.length) from if_pos hv)
    obtain ⟨v1, hl8⟩ := sb_iff.1 hv
    obtain ⟨_, _, hx, hn0, hnt⟩ := vb_iff.1 v1
    have hbt := tot_bd l 100 hx
    have H0 := hide (show ([] : List (List Int)) = lcK l need 0 from lcK_nil.symm)
    have HX := hide hx; clear hx
    have hp8 := pow8 hl8
    have hpb := pow_bd (m := l.length) (by omega)
    clear v1
    go_enter Try.func20, Try.ntmps20
    go_wp2_with fail; refine (Ret.eqB (implSmall _ _ l need _ H.out hl) hv).mono ?_; rintro e w1 ⟨rfl, E1⟩
    have X1 := X0.keep E1
    have H1 := hide (H.out.ext E1)
    have EA := ((Ext.refl w).alloc (.cells #[.slice sa l.length cap, .int .i64 need] 28)).trans E1
    clear X0 H E1
    go_wp2
    go_loopw [3, 4] (fun v u wr => ∃ (S : Nat) (s2 : Option Addr) (c2 : Nat) (o : List (List Int)) (hs : Heads), S ≤ 2 ^ l.length ∧ u = .int .i64 S ∧ v = .slice s2 o.length c2 ∧ Hid (o = lcK l need S) ∧ Mat w1.heap.size wr s2 c2 o hs ∧ Ext w1 wr) (fun _ u _ => 2 ^ l.length - (intOf u).toNat)
    case atStart => exact ⟨0, none, 0, [], [], Nat.zero_le _, rfl, rfl, H0, Mat.nil _ _, Ext.refl _⟩
    case round =>
      obtain ⟨S, s2, c2, o, hs, hS, rfl, rfl, HO, hr, hE⟩ := hrel
      have ho : o.length ≤ S := by rw [HO.out]; exact lcK_len _ _ _
      obtain ⟨c0, c1, _, _⟩ := (X1.keep hE).two
      by_cases hlt : S < 2 ^ l.length
      · have d1 : decide ((S : Int) < 2 ^ l.length) = true := decide_eq_true (by rw [← pow_cast]; omega)
        by_cases hle : leastB l need S = true
        · have HS := hide (show o ++ [mems S] = lcK l need (S + 1) by rw [HO.out]; exact lcK_yes hle)
          go_wp2_with fail; refine (Ret.eqB (implLeast _ _ l need S _ (H1.out.ext hE) (by omega) HX.out (by omega) (by omega) (by omega)) hle).mono ?_; rintro e w2 ⟨rfl, E2⟩
          go_wp2_with fail; refine (implListOf S _ (by omega)).mono ?_; rintro e w3 ⟨s3, c3, rfl, R3, hb3⟩
          have hr2 := hr.ext E2
          have hE2 := hE.trans E2
          obtain ⟨x, hx2⟩ : ∃ x, x = mems S := ⟨_, rfl⟩; rw [← hx2] at R3 HS ⊢
          clear hx2
          go_wp2_with (first | (at_builtin; refine append_row (s := .tmp 19) (x := .tmp 22) rfl rfl rfl rfl hr2 (Ext.of hb3) R3 (by omega) hE2.size ?_; intro g4 cap4 w4 M4 hb4))
          have E4 : Ext w1 w4 := (hE2.trans (Ext.of hb3)).below hb4 (Nat.le_refl _)
          clear hb3 hb4 R3 hr2
          go_wp2
          go_roundw
          case rel => exact ⟨S + 1, _, _, _, _, by omega, by go_num, by rw [len_snocL o x], HS, M4, E4⟩
          case measure => simp [intOf]; omega
        · rw [Bool.not_eq_true] at hle
          have HS := hide (show o = lcK l need (S + 1) by rw [HO.out]; exact lcK_no hle)
          go_wp2_with fail; refine (Ret.eqB (implLeast _ _ l need S _ (H1.out.ext hE) (by omega) HX.out (by omega) (by omega) (by omega)) hle).mono ?_; rintro e w2 ⟨rfl, E2⟩
          go_wp2
          go_roundw
          case rel => exact ⟨S + 1, _, _, _, _, by omega, by go_num, rfl, HS, hr.ext E2, hE.trans E2⟩
          case measure => simp [intOf]; omega
      · obtain rfl : S = 2 ^ l.length := by omega
        have d1 : decide (((2 ^ l.length : Nat) : Int) < 2 ^ l.length) = false := decide_eq_false (by rw [← pow_cast]; omega)
        have HG := hide (show lcL l need = o by rw [HF.out, HO.out])
        go_wp2
        go_ret
        exact ⟨s2, c2, hs, by rw [HG.out]; rfl, by rw [HG.out]; exact hr.le EA.size, EA.trans hE⟩
  · have HF := hide (show lcL l need = [] from if_neg hv)
    rw [Bool.not_eq_true] at hv
    go_enter Try.func20, Try.ntmps20
    go_wp2_with fail; refine (Ret.eqB (implSmall _ _ l need _ H.out hl) hv).mono ?_; rintro e w1 ⟨rfl, E1⟩
    go_wp2
    go_ret
    exact RetMat.of HF.out (Mat.nil _ _) (Nat.le_refl _) (((Ext.refl w).alloc _).trans E1)
set_option maxHeartbeats 2000000 in
theorem specLeastC (sa : Option Addr) (cap : Nat) (l : List Int) (need : Int) (w : World) (h : Lst w sa l) (hl : l.length ≤ 2000000) :
    Calls Try.prog 18 #[.agg #[.slice sa l.length cap, .int .i64 need]] w (RetMat (lcL l need) w) := by
  have H := hide (h.ext ((Ext.refl w).alloc (.cells #[.slice sa l.length cap, .int .i64 need] 28)))
  have X0 := (Box.new w #[.slice sa l.length cap, .int .i64 need] 28)
  clear h
  by_cases hv : sb l need = true
  · have HF := hide (show lcL l need = lcK l need (2 ^ l.length) from if_pos hv)
    obtain ⟨v1, hl8⟩ := sb_iff.1 hv
    obtain ⟨_, _, hx, hn0, hnt⟩ := vb_iff.1 v1
    have HZ := hide (show ([] : List (List Int)) = lcK l need 1 from lcK_nil.symm.trans <| lcK_no (l := l) (need := need) (S := 0) (leastB_no fun h => by
      have := h.1
      have e : wt l 0 = 0 := by
        unfold wt; generalize l.length = n
        induction n with
        | zero => rfl
        | succ n ih => unfold wtK; rw [ih]; simp
      omega))
    have HX := hide hx; clear hx
    have hp8 : pw l.length ≤ 256 := pow8 hl8
    have hp1 : 1 ≤ pw l.length := Nat.two_pow_pos _
    clear v1
    go_enter Try.func18, Try.ntmps18
    go_wp2_with fail; refine (Ret.eqB (specSmall _ _ l need _ H.out hl) hv).mono ?_; rintro e w1 ⟨rfl, E1⟩
    have X1 := X0.keep E1
    have H1 := hide (H.out.ext E1)
    have EA := ((Ext.refl w).alloc (.cells #[.slice sa l.length cap, .int .i64 need] 28)).trans E1
    clear X0 H E1
    go_wp2
    go_loopw [3, 4] (fun v u wr => ∃ (S : Nat) (s2 : Option Addr) (c2 : Nat) (o : List (List Int)) (hs : Heads), S ≤ pw l.length ∧ u = .int .i64 S ∧ v = .slice s2 o.length c2 ∧ Hid (o = lcK l need S) ∧ Mat w1.heap.size wr s2 c2 o hs ∧ Ext w1 wr) (fun _ u _ => pw l.length - (intOf u).toNat)
    case atStart => exact ⟨1, _, 0, [], [], hp1, rfl, rfl, HZ, Mat.made _ _ (Nat.le_refl _), (Ext.refl _).alloc _⟩
    case round =>
      obtain ⟨S, s2, c2, o, hs, hS, rfl, rfl, HO, hr, hE⟩ := hrel
      have ho : o.length ≤ S := by rw [HO.out]; exact lcK_len _ _ _
      obtain ⟨c0, c1, _, _⟩ := (X1.keep hE).two
      go_wp2_with fail; refine (specPower l.length _ (by omega)).mono ?_; rintro e w' ⟨rfl, rfl⟩
      by_cases hlt : S < pw l.length
      · by_cases hle : leastB l need S = true
        · have HS := hide (show o ++ [mems S] = lcK l need (S + 1) by rw [HO.out]; exact lcK_yes hle)
          go_wp2_with fail; refine (Ret.eqB (specLeast _ _ l need S _ (H1.out.ext hE) (by omega) HX.out (by omega)) hle).mono ?_; rintro e w2 ⟨rfl, E2⟩
          go_wp2_with fail; refine (specMembers S _ (by omega)).mono ?_; rintro e w3 ⟨s3, c3, rfl, R3, hb3⟩
          have hr2 := hr.ext E2
          have hE2 := hE.trans E2
          obtain ⟨x, hx2⟩ : ∃ x, x = mems S := ⟨_, rfl⟩; rw [← hx2] at R3 HS ⊢
          clear hx2
          go_wp2_with (first | (at_builtin; refine append_row (s := .tmp 20) (x := .tmp 23) rfl rfl rfl rfl hr2 (Ext.of hb3) R3 (by omega) hE2.size ?_; intro g4 cap4 w4 M4 hb4))
          have E4 : Ext w1 w4 := (hE2.trans (Ext.of hb3)).below hb4 (Nat.le_refl _)
          clear hb3 hb4 R3 hr2
          go_wp2
          go_roundw
          case rel => exact ⟨S + 1, _, _, _, _, by omega, by go_num, by rw [len_snocL o x], HS, M4, E4⟩
          case measure => simp [intOf]; omega
        · rw [Bool.not_eq_true] at hle
          have HS := hide (show o = lcK l need (S + 1) by rw [HO.out]; exact lcK_no hle)
          go_wp2_with fail; refine (Ret.eqB (specLeast _ _ l need S _ (H1.out.ext hE) (by omega) HX.out (by omega)) hle).mono ?_; rintro e w2 ⟨rfl, E2⟩
          go_wp2
          go_roundw
          case rel => exact ⟨S + 1, _, _, _, _, by omega, by go_num, rfl, HS, hr.ext E2, hE.trans E2⟩
          case measure => simp [intOf]; omega
      · obtain rfl : S = pw l.length := by omega
        have HG := hide (show lcL l need = o from HF.out.trans HO.out.symm)
        go_wp2
        go_ret
        exact ⟨s2, c2, hs, by rw [HG.out]; rfl, by rw [HG.out]; exact hr.le EA.size, EA.trans hE⟩
  · have HF := hide (show lcL l need = [] from if_neg hv)
    rw [Bool.not_eq_true] at hv
    go_enter Try.func18, Try.ntmps18
    go_wp2_with fail; refine (Ret.eqB (specSmall _ _ l need _ H.out hl) hv).mono ?_; rintro e w1 ⟨rfl, E1⟩
    go_wp2
    go_ret
    exact RetMat.of HF.out (Mat.nil _ _) (Nat.le_refl _) (((Ext.refl w).alloc _).trans E1)
end Go.Proofs.Ytjdfdikifiljjab
