/- Chapter 2: vetoes and dummies: contracts. -/
import Derived.Test.YtjdfdikifiljjabSwings
namespace Go.Proofs.Ytjdfdikifiljjab
open Go.ChangeShapes Go.WideShapes Go.ChangeAt Go.RowKit Go.Joins Go.Sort
set_option linter.unusedVariables false

theorem len_snoc' (o : List Int) (x : Int) : o.length + 1 = (o ++ [x]).length := by simp
def vetP (l : List Int) (need : Int) (k : Nat) : Bool := decide (tot l - need < l.getD k 0)
def vetL (l : List Int) (need : Int) : List Int := if vb l need = true then filK (vetP l need) l.length else []
theorem vetL_len (l : List Int) (need : Int) : (vetL l need).length ≤ l.length := by
  unfold vetL; split
  · exact filK_len _ _
  · simp
def dumP (sw : List Int) (k : Nat) : Bool := decide (sw.getD k 0 = 0)
def dumL (l : List Int) (need : Int) : List Int := filK (dumP (swL l need)) (swL l need).length
theorem dumL_len (l : List Int) (need : Int) : (dumL l need).length ≤ l.length := by
  unfold dumL; exact Nat.le_trans (filK_len _ _) (swL_len _ _)

set_option maxHeartbeats 2000000 in
theorem implVetoes (sa : Option Addr) (cap : Nat) (l : List Int) (need : Int) (w : World) (h : Lst w sa l) (hl : l.length ≤ 2000000) :
    Calls Try.prog 36 #[.agg #[.slice sa l.length cap, .int .i64 need]] w (RetList (vetL l need) w) := by
  have H := hide (h.ext ((Ext.refl w).alloc (.cells #[.slice sa l.length cap, .int .i64 need] 28)))
  have X0 := (Box.new w #[.slice sa l.length cap, .int .i64 need] 28)
  clear h
  by_cases hv : vb l need = true
  · have HF := hide (show vetL l need = filK (vetP l need) l.length from if_pos hv)
    obtain ⟨_, hl12, hx, hn0, hnt⟩ := vb_iff.1 hv
    have hbt := tot_bd l 100 hx
    have HX := hide hx; clear hx
    go_enter Try.func36, Try.ntmps36
    go_wp2_with fail; refine (Ret.eqB (implValidBody _ _ l need _ H.out hl) hv).mono ?_; rintro e w1 ⟨rfl, E1⟩
    obtain ⟨r0, r1⟩ := X0.reads E1
    have H1 := H.out.ext E1
    have hw : IntKind.i64.wrap (tot l - need) = tot l - need := IntWalk.i64_in _ (by omega)
    go_wp2
    refine wp_region_quiet_below (by kernel_rfl) (by kernel_rfl) ?_
    repeat (go_big_quiet_step ((first | (go_at_call 75; exact Same.quiet (implSum _ _ l _ (H1.ext (below_regrown _ _ _)) hl (fun x hx => ⟨(HX.out x hx).1, by have := (HX.out x hx).2; omega⟩))))))
    refine wpQuiet_nil ?_; intro w2 hq; have E2 := Ext.class hq; clear hq
    clear hw r0 r1
    have HW := hide (H1.ext E2)
    have EA := (((Ext.refl w).alloc (.cells #[.slice sa l.length cap, .int .i64 need] 28)).trans E1).trans E2
    obtain ⟨c0, c1, _, _⟩ := (X0.keep (E1.trans E2)).two
    clear H1 H
    go_wp2
    clear c0 c1
    go_loopw [4, 19] (fun v i wr => ∃ (c : Nat) (s2 : Option Addr) (c2 : Nat) (o : List Int), c ≤ l.length ∧ i = .int .i64 c ∧ v = .slice s2 o.length c2 ∧ Hid (o = filK (vetP l need) c) ∧ Row w2.heap.size wr s2 c2 o ∧ Ext w2 wr) (fun _ i _ => l.length - (intOf i).toNat)
    case atStart => exact ⟨0, none, 0, [], Nat.zero_le _, rfl, rfl, rfl, Row.nil _ _, Ext.refl _⟩
    case round =>
      obtain ⟨c, s2, c2, o, hc, rfl, rfl, HO, hr, hE⟩ := hrel
      have ho : o.length ≤ c := by rw [HO.out]; exact filK_len _ _
      by_cases hlt : c < l.length
      · obtain ⟨g, off, rfl, hg, e3⟩ := (HW.out.ext hE).at hlt
        by_cases hp : tot l - need < l.getD c 0
        · have HS := hide (show o ++ [(c : Int)] = filK (vetP l need) (c + 1) by rw [HO.out]; exact filK_yes (decide_eq_true hp))
          obtain ⟨z, hz⟩ : ∃ z, z = l.getD c 0 := ⟨_, rfl⟩; rw [← hz] at e3 hp
          have t1 : decide (tot l - need < z) = true := decide_eq_true hp
          clear hz
          go_wp2_with (first | (at_builtin; refine append_int rfl (.tmp 27) (.tmp 29) rfl w2.heap.size wr s2 c2 o (c : Int) _ rfl rfl hr (by omega) hE.size ?_; intro g3 cap3 w3 R3 hb3))
          have E3 := Ext.of (Below.trans hE hb3)
          clear hb3
          go_wp2
          go_roundw
          case rel => exact ⟨c + 1, _, _, _, by omega, by go_num, by rw [len_snoc' o (c : Int)], HS, R3, E3⟩
          case measure => simp [intOf]; omega
        · have HS := hide (show o = filK (vetP l need) (c + 1) by rw [HO.out]; exact filK_no (decide_eq_false hp))
          obtain ⟨z, hz⟩ : ∃ z, z = l.getD c 0 := ⟨_, rfl⟩; rw [← hz] at e3 hp
          have t1 : decide (tot l - need < z) = false := decide_eq_false hp
          clear hz
          go_wp2
          go_roundw
          case rel => exact ⟨c + 1, _, _, _, by omega, by go_num, rfl, HS, hr, hE⟩
          case measure => simp [intOf]; omega
      · obtain rfl : c = l.length := by omega
        have HG := hide (show vetL l need = o by rw [HF.out, HO.out])
        go_wp2
        go_ret
        exact ⟨s2, c2, by rw [HG.out]; rfl, by rw [HG.out]; exact hr.le EA.size, EA.trans hE⟩
  · have HF := hide (show vetL l need = [] from if_neg hv)
    rw [Bool.not_eq_true] at hv
    go_enter Try.func36, Try.ntmps36
    go_wp2_with fail; refine (Ret.eqB (implValidBody _ _ l need _ H.out hl) hv).mono ?_; rintro e w1 ⟨rfl, E1⟩
    go_wp2
    go_ret
    exact RetList.of (base := 0) HF.out (Row.nil _ _) (((Ext.refl w).alloc _).trans E1)
set_option maxHeartbeats 2000000 in
theorem specVetoes (sa : Option Addr) (cap : Nat) (l : List Int) (need : Int) (w : World) (h : Lst w sa l) (hl : l.length ≤ 2000000) :
    Calls Try.prog 35 #[.agg #[.slice sa l.length cap, .int .i64 need]] w (RetList (vetL l need) w) := by
  have H := hide (h.ext ((Ext.refl w).alloc (.cells #[.slice sa l.length cap, .int .i64 need] 28)))
  have X0 := (Box.new w #[.slice sa l.length cap, .int .i64 need] 28)
  clear h
  by_cases hv : vb l need = true
  · have HF := hide (show vetL l need = filK (vetP l need) l.length from if_pos hv)
    obtain ⟨_, hl12, hx, hn0, hnt⟩ := vb_iff.1 hv
    have hbt := tot_bd l 100 hx
    have HX := hide hx; clear hx
    go_enter Try.func35, Try.ntmps35
    go_wp2_with fail; refine (Ret.eqB (specvBody _ _ l need _ H.out hl) hv).mono ?_; rintro e w2 ⟨rfl, E1⟩
    have HW := hide (H.out.ext E1)
    have X2 := X0.keep E1
    have EA := ((Ext.refl w).alloc (.cells #[.slice sa l.length cap, .int .i64 need] 28)).trans E1
    clear H X0 E1
    go_wp2
    go_loopw [3, 4] (fun v i wr => ∃ (c : Nat) (s2 : Option Addr) (c2 : Nat) (o : List Int), c ≤ l.length ∧ i = .int .i64 c ∧ v = .slice s2 o.length c2 ∧ Hid (o = filK (vetP l need) c) ∧ Row w2.heap.size wr s2 c2 o ∧ Ext w2 wr) (fun _ i _ => l.length - (intOf i).toNat)
    case atStart => exact ⟨0, _, 0, [], Nat.zero_le _, rfl, rfl, rfl, Row.made _ _ (Nat.le_refl _), (Ext.refl _).alloc _⟩
    case round =>
      obtain ⟨c, s2, c2, o, hc, rfl, rfl, HO, hr, hE⟩ := hrel
      have ho : o.length ≤ c := by rw [HO.out]; exact filK_len _ _
      obtain ⟨c0, c1, _, _⟩ := (X2.keep hE).two
      by_cases hlt : c < l.length
      · obtain ⟨r0, r1⟩ := X2.reads hE
        obtain ⟨g, off, rfl, hg, e3⟩ := (HW.out.ext hE).at hlt
        have hz2 := HX.out _ (getD_mem hlt)
        by_cases hp : tot l - need < l.getD c 0
        · have HS := hide (show o ++ [(c : Int)] = filK (vetP l need) (c + 1) by rw [HO.out]; exact filK_yes (decide_eq_true hp))
          obtain ⟨z, hz⟩ : ∃ z, z = l.getD c 0 := ⟨_, rfl⟩; rw [← hz] at e3 hp hz2
          have t1 : decide (tot l - z < need) = true := decide_eq_true (by omega)
          have hw : IntKind.i64.wrap (tot l - z) = tot l - z := IntWalk.i64_in _ (by omega)
          have k3 := cell_regrown e3
          clear hz
          go_wp2
          refine wp_region_quiet_below (by kernel_rfl) (by kernel_rfl) ?_
          repeat (go_big_quiet_step ((first | (go_at_call 74; exact Same.quiet (specTotal _ _ _ l _ (HW.out.ext (hE.trans (below_regrown _ _ _))) rfl hl (fun x hx => ⟨(HX.out x hx).1, by have := (HX.out x hx).2; omega⟩))))))
          refine wpQuiet_nil ?_; intro w5 hq; have E5 := Ext.class hq; clear hq
          clear hw k3 r0 r1 c0 c1 e3
          have hr := hr.ext E5
          have hE := hE.trans E5
          obtain ⟨wr, rfl⟩ : ∃ x, x = w5 := ⟨_, rfl⟩
          go_wp2_with (first | (at_builtin; refine append_int rfl (.tmp 28) (.tmp 30) rfl w2.heap.size wr s2 c2 o (c : Int) _ rfl rfl hr (by omega) hE.size ?_; intro g3 cap3 w3 R3 hb3))
          have E3 := Ext.of (Below.trans hE hb3)
          clear hb3
          go_wp2
          go_roundw
          case rel => exact ⟨c + 1, _, _, _, by omega, by go_num, by rw [len_snoc' o (c : Int)], HS, R3, E3⟩
          case measure => simp [intOf]; omega
        · have HS := hide (show o = filK (vetP l need) (c + 1) by rw [HO.out]; exact filK_no (decide_eq_false hp))
          obtain ⟨z, hz⟩ : ∃ z, z = l.getD c 0 := ⟨_, rfl⟩; rw [← hz] at e3 hp hz2
          have t1 : decide (tot l - z < need) = false := decide_eq_false (by omega)
          have hw : IntKind.i64.wrap (tot l - z) = tot l - z := IntWalk.i64_in _ (by omega)
          have k3 := cell_regrown e3
          clear hz
          go_wp2
          refine wp_region_quiet_below (by kernel_rfl) (by kernel_rfl) ?_
          repeat (go_big_quiet_step ((first | (go_at_call 74; exact Same.quiet (specTotal _ _ _ l _ (HW.out.ext (hE.trans (below_regrown _ _ _))) rfl hl (fun x hx => ⟨(HX.out x hx).1, by have := (HX.out x hx).2; omega⟩))))))
          refine wpQuiet_nil ?_; intro w5 hq; have E5 := Ext.class hq; clear hq
          clear hw k3 r0 r1 c0 c1 e3
          have hr := hr.ext E5
          have hE := hE.trans E5
          go_wp2
          go_roundw
          case rel => exact ⟨c + 1, _, _, _, by omega, by go_num, rfl, HS, hr, hE⟩
          case measure => simp [intOf]; omega
      · obtain rfl : c = l.length := by omega
        have HG := hide (show vetL l need = o by rw [HF.out, HO.out])
        go_wp2
        go_ret
        exact ⟨s2, c2, by rw [HG.out]; rfl, by rw [HG.out]; exact hr.le EA.size, EA.trans hE⟩
  · have HF := hide (show vetL l need = [] from if_neg hv)
    rw [Bool.not_eq_true] at hv
    go_enter Try.func35, Try.ntmps35
    go_wp2_with fail; refine (Ret.eqB (specvBody _ _ l need _ H.out hl) hv).mono ?_; rintro e w1 ⟨rfl, E1⟩
    go_wp2
    go_ret
    exact RetList.of (base := 0) HF.out (Row.nil _ _) (((Ext.refl w).alloc _).trans E1)
set_option maxHeartbeats 2000000 in
theorem implDummies (sa : Option Addr) (cap : Nat) (l : List Int) (need : Int) (w : World) (h : Lst w sa l) (hl : l.length ≤ 2000000) :
    Calls Try.prog 34 #[.agg #[.slice sa l.length cap, .int .i64 need]] w (RetList (dumL l need) w) := by
  have H := hide (h.ext ((Ext.refl w).alloc (.cells #[.slice sa l.length cap, .int .i64 need] 28)))
  have X0 := (Box.new w #[.slice sa l.length cap, .int .i64 need] 28)
  clear h
  have hsl := swL_len l need
  have HF := hide (show dumL l need = filK (dumP (swL l need)) (swL l need).length from rfl)
  go_enter Try.func34, Try.ntmps34
  go_wp2_with fail; refine (implSwings _ _ l need _ H.out hl).mono ?_; rintro e w2 ⟨sw, cw, rfl, RW, hb⟩
  have EA := ((Ext.refl w).alloc (.cells #[.slice sa l.length cap, .int .i64 need] 28)).trans (Ext.of hb)
  have HW := hide RW.lst
  obtain ⟨l2, hl2⟩ : ∃ l2, l2 = swL l need := ⟨_, rfl⟩; rw [← hl2] at hsl HF HW ⊢
  clear H X0 hb RW hl2
  go_wp2
  go_loopw [3, 9] (fun v i wr => ∃ (c : Nat) (s2 : Option Addr) (c2 : Nat) (o : List Int), c ≤ l2.length ∧ i = .int .i64 c ∧ v = .slice s2 o.length c2 ∧ Hid (o = filK (dumP l2) c) ∧ Row w2.heap.size wr s2 c2 o ∧ Ext w2 wr) (fun _ i _ => l2.length - (intOf i).toNat)
  case atStart => exact ⟨0, none, 0, [], Nat.zero_le _, rfl, rfl, rfl, Row.nil _ _, Ext.refl _⟩
  case round =>
    obtain ⟨c, s2, c2, o, hc, rfl, rfl, HO, hr, hE⟩ := hrel
    have ho : o.length ≤ c := by rw [HO.out]; exact filK_len _ _
    by_cases hlt : c < l2.length
    · obtain ⟨g, off, rfl, hg, e3⟩ := (HW.out.ext hE).at hlt
      by_cases hp : l2.getD c 0 = 0
      · have HS := hide (show o ++ [(c : Int)] = filK (dumP l2) (c + 1) by rw [HO.out]; exact filK_yes (decide_eq_true hp))
        rw [hp] at e3
        clear hp
        go_wp2_with (first | (at_builtin; refine append_int rfl (.tmp 16) (.tmp 18) rfl w2.heap.size wr s2 c2 o (c : Int) _ rfl rfl hr (by omega) hE.size ?_; intro g3 cap3 w3 R3 hb3))
        have E3 := Ext.of (Below.trans hE hb3)
        clear hb3
        go_wp2
        go_roundw
        case rel => exact ⟨c + 1, _, _, _, by omega, by go_num, by rw [len_snoc' o (c : Int)], HS, R3, E3⟩
        case measure => simp [intOf]; omega
      · have HS := hide (show o = filK (dumP l2) (c + 1) by rw [HO.out]; exact filK_no (decide_eq_false hp))
        obtain ⟨z, hz⟩ : ∃ z, z = l2.getD c 0 := ⟨_, rfl⟩; rw [← hz] at e3 hp
        have t1 : ((z : Int) == 0) = false := by rw [beq_eq_false_iff_ne]; exact hp
        clear hz hp
        go_wp2
        go_roundw
        case rel => exact ⟨c + 1, _, _, _, by omega, by go_num, rfl, HS, hr, hE⟩
        case measure => simp [intOf]; omega
    · obtain rfl : c = l2.length := by omega
      have HG := hide (show dumL l need = o by rw [HF.out, HO.out])
      go_wp2
      go_ret
      exact ⟨s2, c2, by rw [HG.out]; rfl, by rw [HG.out]; exact hr.le EA.size, EA.trans hE⟩
set_option maxHeartbeats 2000000 in
theorem specDummies (sa : Option Addr) (cap : Nat) (l : List Int) (need : Int) (w : World) (h : Lst w sa l) (hl : l.length ≤ 2000000) :
    Calls Try.prog 33 #[.agg #[.slice sa l.length cap, .int .i64 need]] w (RetList (dumL l need) w) := by
  have H := hide (h.ext ((Ext.refl w).alloc (.cells #[.slice sa l.length cap, .int .i64 need] 28)))
  have X0 := (Box.new w #[.slice sa l.length cap, .int .i64 need] 28)
  clear h
  by_cases hv : sb l need = true
  · have hsl := swL_len l need
    have HF := hide (show dumL l need = filK (dumP (swL l need)) (swL l need).length from rfl)
    go_enter Try.func33, Try.ntmps33
    go_wp2_with fail; refine (Ret.eqB (specSmall _ _ l need _ H.out hl) hv).mono ?_; rintro e w1 ⟨rfl, E1⟩
    have X1 := X0.keep E1
    have z1 := X1.lt
    obtain ⟨c0, c1, _, _⟩ := X1.two
    go_wp2_with fail; refine (specSw _ _ l need _ (H.out.ext (E1.alloc _)) hv).mono ?_; rintro e w2 ⟨sw, cw, rfl, RW, hb⟩
    have EA := (((Ext.refl w).alloc (.cells #[.slice sa l.length cap, .int .i64 need] 28)).trans (E1.alloc _)).trans (Ext.of hb)
    have HW := hide RW.lst
    have E12 := ((Ext.refl w1).alloc _).trans (Ext.of hb)
    have R0 := (Row.made w1.heap.size w1 (Nat.le_refl _)).ext (Ext.of hb)
    have RWF := RW.form
    have hpos : 0 < (swL l need).length := by
      rw [show swL l need = accL (swF l need) l.length (2 ^ l.length) from if_pos hv, accL_len]
      exact (vb_iff.1 (sb_iff.1 hv).1).1
    have E01 := E1
    have e01 : w.heap.size ≤ w1.heap.size := (((Ext.refl w).alloc (.cells #[.slice sa l.length cap, .int .i64 need] 28)).trans E1).size
    obtain ⟨l2, hl2⟩ : ∃ l2, l2 = swL l need := ⟨_, rfl⟩; rw [← hl2] at hsl HF HW RWF hpos ⊢
    clear H X0 hb RW hl2 c0 c1 X1 z1 E1
    have e12 := E12.size
    go_wp2
    obtain ⟨g, hg0, hg1, hcells⟩ : ∃ g, sw = some ⟨g, 0, none⟩ ∧ w1.heap.size + 1 ≤ g ∧ g < w2.heap.size ∧ ∀ i, i < l2.length → w2.cell? ⟨g, i, none⟩ = some (.int .i64 (l2.getD i 0)) := by
      rcases RWF with h0 | ⟨g, cur, h1, h2, h3, h4⟩
      · rw [h0] at hpos; simp at hpos
      · exact ⟨g, h1, by simpa using h2, size_of_heap h3, fun i hi => by rw [cell_of_block h3]; simpa using h4 i hi⟩
    subst hg0
    obtain ⟨hg2, hcells⟩ := hcells
    have HC := hide hcells
    clear hcells RWF HW
    go_loopw [3, 5] (fun v i wr => ∃ (c b c2 : Nat) (o : List Int), c ≤ l2.length ∧ i = .int .i64 c ∧ v = .slice (some ⟨b, 0, none⟩) o.length c2 ∧ Hid (o = filK (dumP l2) c) ∧ Row w1.heap.size wr (some ⟨b, 0, none⟩) c2 o ∧ b ≠ g ∧ g < wr.heap.size ∧ Hid (∀ i, i < l2.length → wr.cell? ⟨g, i, none⟩ = some (.int .i64 (l2.getD i 0))) ∧ Ext w1 wr) (fun _ i _ => l2.length - (intOf i).toNat)
    case atStart => exact ⟨0, _, 0, [], Nat.zero_le _, rfl, rfl, rfl, R0, by omega, hg2, HC, E12⟩
    case round =>
      clear HC R0 hg2
      obtain ⟨c, b, c2, o, hc, rfl, rfl, HO, hr, hbg, hgw, HC, hE⟩ := hrel
      have ho : o.length ≤ c := by rw [HO.out]; exact filK_len _ _
      by_cases hlt : c < l2.length
      · have e3 := HC.out c hlt
        by_cases hp : l2.getD c 0 = 0
        · have HS := hide (show o ++ [(c : Int)] = filK (dumP l2) (c + 1) by rw [HO.out]; exact filK_yes (decide_eq_true hp))
          rw [hp] at e3
          clear hp
          go_wp2_with (first | (at_builtin; refine append_int_at rfl (.tmp 23) (.tmp 25) rfl w1.heap.size wr b c2 o (c : Int) _ rfl rfl hr (by omega) hE.size ?_; intro g3 cap3 w3 R3 hb3 hwhere hrest))
          have HC3 := hide (show ∀ i, i < l2.length → w3.cell? ⟨g, i, none⟩ = some (.int .i64 (l2.getD i 0)) from fun i hi => (World.cell?_of_block (hrest g hgw (Ne.symm hbg))).trans (HC.out i hi))
          have E3 := Ext.of (Below.trans hE hb3)
          have hg3 : g3 ≠ g := by omega
          have hgw3 : g < w3.heap.size := Nat.lt_of_lt_of_le hgw hb3.size
          clear hb3 hrest hwhere e3
          go_wp2
          go_roundw
          case rel => exact ⟨c + 1, g3, cap3, _, by omega, by go_num, by rw [len_snoc' o (c : Int)], HS, R3, hg3, hgw3, HC3, E3⟩
          case measure => simp [intOf]; omega
        · have HS := hide (show o = filK (dumP l2) (c + 1) by rw [HO.out]; exact filK_no (decide_eq_false hp))
          obtain ⟨z, hz⟩ : ∃ z, z = l2.getD c 0 := ⟨_, rfl⟩; rw [← hz] at e3 hp
          have t1 : ((z : Int) == 0) = false := by rw [beq_eq_false_iff_ne]; exact hp
          clear hz hp
          go_wp2
          go_roundw
          case rel => exact ⟨c + 1, b, c2, o, by omega, by go_num, rfl, HS, hr, hbg, hgw, HC, hE⟩
          case measure => simp [intOf]; omega
      · obtain rfl : c = l2.length := by omega
        have HG := hide (show dumL l need = o by rw [HF.out, HO.out])
        have EAE := (((Ext.refl w).alloc (.cells #[.slice sa l.length cap, .int .i64 need] 28)).trans E01).trans hE
        go_wp2
        go_ret
        exact ⟨_, c2, by rw [HG.out]; rfl, by rw [HG.out]; exact hr.le e01, EAE⟩
  · have HF := hide (show dumL l need = [] by unfold dumL; rw [show swL l need = [] from if_neg hv]; rfl)
    rw [Bool.not_eq_true] at hv
    go_enter Try.func33, Try.ntmps33
    go_wp2_with fail; refine (Ret.eqB (specSmall _ _ l need _ H.out hl) hv).mono ?_; rintro e w1 ⟨rfl, E1⟩
    go_wp2
    go_ret
    exact RetList.of (base := 0) HF.out (Row.nil _ _) (((Ext.refl w).alloc _).trans E1)
end Go.Proofs.Ytjdfdikifiljjab
