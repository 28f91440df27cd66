/- Chapter 3: honest reveals: plain numbers, contracts of the program and of the model. -/
import Derived.Test.YtgmhodmgbhpdaadRev1
namespace Go.Proofs.Ytgmhodmgbhpdaad
open Go.ChangeShapes Go.WideShapes Go.ChangeAt Go.RowKit Go.Joins Go.Sort
set_option linter.unusedVariables false

theorem Box.three {w : World} {k : Nat} {a b c : Value} {T : TypeId} (h : Box w k #[a, b, c] T) : w.cell? ⟨k, 0, none⟩ = some a ∧ w.cell? ⟨k, 1, none⟩ = some b ∧ w.cell? ⟨k, 2, none⟩ = some c := by
  refine ⟨?_, ?_, ?_⟩ <;> (rw [cell_of_block h]; rfl)
theorem Box.reads3 {w w1 : World} {k : Nat} {a b c : Value} {T : TypeId} (h : Box w k #[a, b, c] T) (e : Ext w w1) :
    (∀ (d : Nat) (os : Array Obj), (grow (redrawn w1 d) os).cell? ⟨k, 0, none⟩ = some a) ∧ (∀ (d : Nat) (os : Array Obj), (grow (redrawn w1 d) os).cell? ⟨k, 1, none⟩ = some b) ∧ (∀ (d : Nat) (os : Array Obj), (grow (redrawn w1 d) os).cell? ⟨k, 2, none⟩ = some c) :=
  ⟨fun d os => (h.keep (e.regrown d os)).three.1, fun d os => (h.keep (e.regrown d os)).three.2.1, fun d os => (h.keep (e.regrown d os)).three.2.2⟩
/-- a reveal keeps its commitment -/
def hnB (r : Rv) : Bool := cmt r.v r.s == r.c
/-- the honest ones of the first reveals -/
def hnK (ll : List Rv) : Nat → List Int
  | 0 => []
  | k + 1 => if hnB (ll.getD k Rv.z) = true then hnK ll k ++ [(k : Int)] else hnK ll k
theorem hnK_yes {ll : List Rv} {k : Nat} (h : hnB (ll.getD k Rv.z) = true) : hnK ll k ++ [(k : Int)] = hnK ll (k + 1) := (if_pos h).symm
theorem hnK_no {ll : List Rv} {k : Nat} (h : hnB (ll.getD k Rv.z) = false) : hnK ll k = hnK ll (k + 1) := (if_neg (by rw [h]; simp)).symm
theorem hnK_len (ll : List Rv) (k : Nat) : (hnK ll k).length ≤ k := by
  induction k with
  | zero => exact Nat.le_refl _
  | succ k ih =>
    by_cases h : hnB (ll.getD k Rv.z) = true
    · rw [← hnK_yes h, List.length_append]; simp; omega
    · rw [Bool.not_eq_true] at h; rw [← hnK_no h]; omega
open Classical in
noncomputable def hnL (ll : List Rv) : List Int := if rvsOk ll then hnK ll ll.length else []
theorem hnL_yes {ll : List Rv} (h : rvsOk ll) : hnL ll = hnK ll ll.length := if_pos h
theorem hnL_no {ll : List Rv} (h : ¬ rvsOk ll) : hnL ll = [] := if_neg h
theorem rvB_iff {ll : List Rv} : rvB ll = true ↔ rvsOk ll := by unfold rvB; simp
theorem len_snocR (o : List Int) (x : Int) : o.length + 1 = (o ++ [x]).length := by simp
set_option maxHeartbeats 400000 in
theorem implHonest (sa : Option Addr) (cap : Nat) (ll : List Rv) (w : World) (h : Rst w sa ll) (hl : ll.length ≤ 2000000) :
    Calls Try.prog 12 #[.slice sa ll.length cap] w (RetList (hnL ll) w) := by
  have H := hide h; clear h
  by_cases hok : rvsOk ll
  · have HG := hide (hnL_yes hok)
    have HO := hide hok.2
    have h12 := hok.1
    have hv := rvB_yes hok
    have HR := hide (implRvs sa cap ll w H.out hl)
    rw [hv] at HR
    clear hok hv
    go_enter Try.func12, Try.ntmps12
    go_wp2_with fail; refine (HR.out).mono ?_; rintro e w2 ⟨rfl, E2⟩
    go_wp2
    go_loopw [3, 11] (fun u i wr => ∃ (k : Nat) (s2 : Option Addr) (c2 : Nat) (o : List Int), k ≤ ll.length ∧ i = .int .i64 k ∧ u = .slice s2 o.length c2 ∧ Hid (o = hnK ll k) ∧ Row w.heap.size wr s2 c2 o ∧ Ext w wr) (fun _ i _ => ll.length - (intOf i).toNat)
    case atStart => exact ⟨0, none, 0, [], Nat.zero_le _, rfl, rfl, (show [] = hnK ll 0 from rfl), Row.nil _ _, E2⟩
    case round =>
      obtain ⟨k, s2, c2, o, hk, rfl, rfl, HK, hR, hE⟩ := hrel
      by_cases hlt : k < ll.length
      · have ho : o.length ≤ k := by rw [HK.out]; exact hnK_len ll k
        obtain ⟨g, off, rfl, hg, q0, q1, q2⟩ := (H.out.ext hE).at hlt
        have h1 := HO.out k hlt
        have HY := hide (fun h => HK.out ▸ @hnK_yes ll k h)
        have HN := hide (fun h => HK.out ▸ @hnK_no ll k h)
        have HB := hide (show hnB (ll.getD k Rv.z) = (cmt (ll.getD k Rv.z).v (ll.getD k Rv.z).s == (ll.getD k Rv.z).c) from rfl)
        have HC := hide (fun w2 => implCommit (ll.getD k Rv.z).v (ll.getD k Rv.z).s w2)
        rw [cm_yes h1] at HC
        obtain ⟨b, hb⟩ : ∃ b, b = hnB (ll.getD k Rv.z) := ⟨_, rfl⟩; rw [← hb] at HY HN HB
        obtain ⟨c, hc⟩ : ∃ c, c = (ll.getD k Rv.z).c := ⟨_, rfl⟩; rw [← hc] at q0 HB
        obtain ⟨v, hv⟩ : ∃ v, v = (ll.getD k Rv.z).v := ⟨_, rfl⟩; rw [← hv] at q1 HB HC
        obtain ⟨s, hs⟩ : ∃ s, s = (ll.getD k Rv.z).s := ⟨_, rfl⟩; rw [← hs] at q2 HB HC
        obtain ⟨z, hz⟩ : ∃ z, z = cmt v s := ⟨_, rfl⟩; rw [← hz] at HB HC
        clear hb hc hv hs hz h1
        have EA := hE.alloc (.cells #[.int .i64 c, .int .i64 v, .int .i64 s] 31)
        have X1 := Box.new wr #[.int .i64 c, .int .i64 v, .int .i64 s] 31
        obtain ⟨r0, r1, r2⟩ := X1.reads3 (Ext.refl _)
        obtain ⟨y0, y1, y2⟩ := X1.three
        have hR2 := hR.ext ((Ext.refl wr).alloc (.cells #[.int .i64 c, .int .i64 v, .int .i64 s] 31))
        cases b with
        | true =>
          have ht : (z == c) = true := HB.out.symm
          have HK2 := hide (HY.out rfl)
          clear HY HN HB HK
          go_wp2
          refine wp_region_quiet_below (by kernel_rfl) (by kernel_rfl) ?_
          repeat (go_big_quiet_step ((first | (go_at_call 16; exact Same.quiet (HC.out _)))))
          refine wpQuiet_nil ?_; intro w9 hq; have E9 := Ext.class hq; clear hq
          have hR3 := hR2.ext E9
          have E3 := EA.trans E9
          clear r0 r1 r2 y0 y1 y2 X1
          go_wp2_with (first | (at_builtin; refine append_int rfl (.tmp 24) (.tmp 26) rfl w.heap.size w9 s2 c2 o (k : Int) _ rfl rfl hR3 (by omega) E3.size ?_; intro g3 cap3 w3 R3 hb3))
          have E4 := Ext.of (Below.trans E3 hb3)
          clear hb3
          go_wp2
          go_roundw
          case rel => exact ⟨k + 1, _, _, _, by omega, by go_num, by rw [len_snocR o (k : Int)], HK2, R3, E4⟩
          case measure => simp [intOf]; omega
        | false =>
          have ht : (z == c) = false := HB.out.symm
          have HK2 := hide (HN.out rfl)
          clear HY HN HB HK
          go_wp2
          refine wp_region_quiet_below (by kernel_rfl) (by kernel_rfl) ?_
          repeat (go_big_quiet_step ((first | (go_at_call 16; exact Same.quiet (HC.out _)))))
          refine wpQuiet_nil ?_; intro w9 hq; have E9 := Ext.class hq; clear hq
          go_wp2
          go_roundw
          case rel => exact ⟨k + 1, s2, c2, o, by omega, by go_num, rfl, HK2, hR2.ext E9, EA.trans E9⟩
          case measure => simp [intOf]; omega
      · obtain rfl : k = ll.length := by omega
        have HF := hide (show hnL ll = o by rw [HG.out, HK.out])
        go_wp2
        go_ret
        exact ⟨s2, c2, by rw [HF.out]; rfl, by rw [HF.out]; exact hR, hE⟩
  · have HG := hide (hnL_no hok)
    have HR := hide (implRvs sa cap ll w H.out hl)
    rw [rvB_no hok] at HR
    clear hok
    go_enter Try.func12, Try.ntmps12
    go_wp2_with fail; refine (HR.out).mono ?_; rintro e w2 ⟨rfl, E2⟩
    go_wp2
    go_ret
    exact RetList.of (base := 0) HG.out (Row.nil _ _) E2
set_option maxHeartbeats 400000 in
theorem specHonest (sa : Option Addr) (cap : Nat) (ll : List Rv) (w : World) (h : Rst w sa ll) (hl : ll.length ≤ 2000000) :
    Calls Try.prog 14 #[.slice sa ll.length cap] w (RetList (hnL ll) w) := by
  have H := hide h; clear h
  by_cases hok : rvsOk ll
  · have HG := hide (hnL_yes hok)
    have HO := hide hok.2
    have h12 := hok.1
    have hv := rvB_yes hok
    have HR := hide (specRvs sa cap ll w H.out hl)
    rw [hv] at HR
    clear hok hv
    go_enter Try.func14, Try.ntmps14
    go_wp2_with fail; refine (HR.out).mono ?_; rintro e w' ⟨rfl, rfl⟩
    have R0 := Row.madeAt w.heap.size w.heap.size w rfl (Nat.le_refl _)
    have EE0 := (Ext.refl w).alloc (.cells #[] 3)
    go_wp2
    go_loopw [3, 4] (fun u i wr => ∃ (k : Nat) (s2 : Option Addr) (c2 : Nat) (o : List Int), k ≤ ll.length ∧ i = .int .i64 k ∧ u = .slice s2 o.length c2 ∧ Hid (o = hnK ll k) ∧ Row w.heap.size wr s2 c2 o ∧ Ext w wr) (fun _ i _ => ll.length - (intOf i).toNat)
    case atStart => exact ⟨0, _, 0, [], Nat.zero_le _, rfl, rfl, (show [] = hnK ll 0 from rfl), R0, EE0⟩
    case round =>
      clear R0 EE0
      obtain ⟨k, s2, c2, o, hk, rfl, rfl, HK, hR, hE⟩ := hrel
      by_cases hlt : k < ll.length
      · have ho : o.length ≤ k := by rw [HK.out]; exact hnK_len ll k
        have hki : (k : Int) < (ll.length : Int) := by omega
        obtain ⟨g, off, rfl, hg, q0, q1, q2⟩ := (H.out.ext hE).at hlt
        have h1 := HO.out k hlt
        have HY := hide (fun h => HK.out ▸ @hnK_yes ll k h)
        have HN := hide (fun h => HK.out ▸ @hnK_no ll k h)
        have HB := hide (show hnB (ll.getD k Rv.z) = (cmt (ll.getD k Rv.z).v (ll.getD k Rv.z).s == (ll.getD k Rv.z).c) from rfl)
        have HC := hide (fun w2 => specCommit (ll.getD k Rv.z).v (ll.getD k Rv.z).s w2 h1)
        obtain ⟨b, hb⟩ : ∃ b, b = hnB (ll.getD k Rv.z) := ⟨_, rfl⟩; rw [← hb] at HY HN HB
        obtain ⟨c, hc⟩ : ∃ c, c = (ll.getD k Rv.z).c := ⟨_, rfl⟩; rw [← hc] at q0 HB
        obtain ⟨v, hv⟩ : ∃ v, v = (ll.getD k Rv.z).v := ⟨_, rfl⟩; rw [← hv] at q1 HB HC
        obtain ⟨s, hs⟩ : ∃ s, s = (ll.getD k Rv.z).s := ⟨_, rfl⟩; rw [← hs] at q2 HB HC
        obtain ⟨z, hz⟩ : ∃ z, z = cmt v s := ⟨_, rfl⟩; rw [← hz] at HB HC
        clear hb hc hv hs hz h1
        have r0 := cell_regrown q0
        have r1 := cell_regrown q1
        have r2 := cell_regrown q2
        cases b with
        | true =>
          have ht : (z == c) = true := HB.out.symm
          have HK2 := hide (HY.out rfl)
          clear HY HN HB HK
          go_wp2
          refine wp_region_quiet_below (by kernel_rfl) (by kernel_rfl) ?_
          repeat (go_big_quiet_step ((first | (go_at_call 36; exact Same.quiet (HC.out _)))))
          refine wpQuiet_nil ?_; intro w9 hq; have E9 := Ext.class hq; clear hq
          have hR3 := hR.ext E9
          have E3 := hE.trans E9
          clear r0 r1 r2 q0 q1 q2
          go_wp2_with (first | (at_builtin; refine append_int rfl (.tmp 32) (.tmp 34) rfl w.heap.size w9 s2 c2 o (k : Int) _ rfl rfl hR3 (by omega) E3.size ?_; intro g3 cap3 w3 R3 hb3))
          have E4 := Ext.of (Below.trans E3 hb3)
          clear hb3
          go_wp2
          go_roundw
          case rel => exact ⟨k + 1, _, _, _, by omega, by go_num, by rw [len_snocR o (k : Int)], HK2, R3, E4⟩
          case measure => simp [intOf]; omega
        | false =>
          have ht : (z == c) = false := HB.out.symm
          have HK2 := hide (HN.out rfl)
          clear HY HN HB HK
          go_wp2
          refine wp_region_quiet_below (by kernel_rfl) (by kernel_rfl) ?_
          repeat (go_big_quiet_step ((first | (go_at_call 36; exact Same.quiet (HC.out _)))))
          refine wpQuiet_nil ?_; intro w9 hq; have E9 := Ext.class hq; clear hq
          go_wp2
          go_roundw
          case rel => exact ⟨k + 1, s2, c2, o, by omega, by go_num, rfl, HK2, hR.ext E9, hE.trans E9⟩
          case measure => simp [intOf]; omega
      · obtain rfl : k = ll.length := by omega
        have HF := hide (show hnL ll = o by rw [HG.out, HK.out])
        go_wp2
        go_ret
        exact ⟨s2, c2, by rw [HF.out]; rfl, by rw [HF.out]; exact hR, hE⟩
  · have HG := hide (hnL_no hok)
    have HR := hide (specRvs sa cap ll w H.out hl)
    rw [rvB_no hok] at HR
    clear hok
    go_enter Try.func14, Try.ntmps14
    go_wp2_with fail; refine (HR.out).mono ?_; rintro e w' ⟨rfl, rfl⟩
    go_wp2
    go_ret
    exact RetList.of (base := 0) HG.out (Row.nil _ _) (Ext.refl _)
end Go.Proofs.Ytgmhodmgbhpdaad
