/- Chapter 3: lists of reveals: compared, written over, and read out of what came in. -/
import Derived.Test.YthbkkbcbhhmhoacRev4
import Derived.Deep.Slices
namespace Go.Proofs.Ythbkkbcbhhmhoac
open Go.ChangeShapes Go.WideShapes Go.ChangeAt Go.RowKit Go.Joins Go.Sort
set_option linter.unusedVariables false

set_option maxHeartbeats 400000 in
theorem eqRevealS_same (sa sb : Option Addr) (ca cb : Nat) (ll : List Rv) (w : World) (ha : Rst w sa ll) (hb : Rst w sb ll) (hl : ll.length ≤ 2000000) :
    Calls Try.prog 27 #[.slice sa ll.length ca, .slice sb ll.length cb] w (Ret (.bool true) w) := by
  have HA := hide ha; clear ha
  have HB := hide hb; clear hb
  have hne : ((ll.length : Int) != (ll.length : Int)) = false := by simp
  go_enter Try.func27, Try.ntmps27
  go_wp2
  go_loopw [5] (fun i wr => ∃ k : Nat, k ≤ ll.length ∧ i = .int .i64 k ∧ Ext w wr) (fun i _ => ll.length - (intOf i).toNat)
  case atStart => exact ⟨0, Nat.zero_le _, rfl, Ext.refl _⟩
  case round =>
    obtain ⟨k, hk, rfl, hE⟩ := hrel
    by_cases hlt : k < ll.length
    · have hki : (k : Int) < (ll.length : Int) := by omega
      obtain ⟨g, off, rfl, hg, q0, q1, q2⟩ := (HA.out.ext hE).at hlt
      obtain ⟨g2, off2, rfl, hg2, p0, p1, p2⟩ := (HB.out.ext hE).at hlt
      obtain ⟨c, hc⟩ : ∃ c, c = (ll.getD k Rv.z).c := ⟨_, rfl⟩; rw [← hc] at q0 p0
      obtain ⟨v, hv⟩ : ∃ v, v = (ll.getD k Rv.z).v := ⟨_, rfl⟩; rw [← hv] at q1 p1
      obtain ⟨s, hs⟩ : ∃ s, s = (ll.getD k Rv.z).s := ⟨_, rfl⟩; rw [← hs] at q2 p2
      clear hc hv hs
      have r0 := cell_regrown q0
      have r1 := cell_regrown q1
      have r2 := cell_regrown q2
      have t0 := cell_regrown p0
      have t1 := cell_regrown p1
      have t2 := cell_regrown p2
      go_wp2
      refine wp_region_quiet_below (by kernel_rfl) (by kernel_rfl) ?_
      repeat (go_big_quiet_step ((first | (go_at_call 66; exact Ret.quiet (eqReveal_same c v s _)))))
      refine wpQuiet_nil ?_; intro w9 hq; have E9 := Ext.class hq; clear hq
      go_wp2
      go_roundw
      case rel => exact ⟨k + 1, by omega, by go_num, hE.trans E9⟩
      case measure => simp [intOf]; omega
    · obtain rfl : k = ll.length := by omega
      go_wp2
      go_ret
      exact Ret.bool rfl hE
/-- a list written over -/
def MarkR (g : Nat) (m : Int) (n : Nat) (w : World) (e : Ending) (w' : World) : Prop := e = .returned (.int .i64 (m + 3 * n)) ∧ Mid g (g + 1) w w'
set_option maxHeartbeats 400000 in
theorem markRevealS_mid (g cap n : Nat) (l : List Int) (m : Int) (w : World) (h : ArrR w g l) (hl : l.length = n * 3) (hn : n ≤ 2000000) (hm0 : 0 ≤ m) (hm : m ≤ 2000000) :
    Calls Try.prog 28 #[.slice (some ⟨g, 0, none⟩) n cap, .int .i64 m] w (MarkR g m n w) := by
  have HL := hide hl
  clear hl
  go_enter Try.func28, Try.ntmps28
  go_wp2
  go_loopw [1, 5] (fun k i wr => ∃ (c : Nat) (l2 : List Int) (z : Int), c ≤ n ∧ i = .int .i64 c ∧ k = .int .i64 z ∧ m + 3 * c ≤ z ∧ z ≤ m + 3 * c ∧ Hid (l2.length = n * 3) ∧ ArrR wr g l2 ∧ Mid g (g + 1) w wr) (fun _ i _ => n - (intOf i).toNat)
  case atStart => exact ⟨0, l, m, Nat.zero_le _, rfl, rfl, by omega, by omega, HL.out, h, Mid.refl _ _ _⟩
  case round =>
    clear h HL
    obtain ⟨c, l2, z, hc, rfl, rfl, z0, z1, HL2, hA, hB⟩ := hrel
    by_cases hlt : c < n
    · have d0 := hA.cell (j := c * 3) (by rw [HL2.out]; omega)
      have d1 := hA.cell (j := c * 3 + 1) (by rw [HL2.out]; omega)
      have d2 := hA.cell (j := c * 3 + 2) (by rw [HL2.out]; omega)
      have f0 := hA.free (c * 3)
      have f1 := hA.free (c * 3 + 1)
      have f2 := hA.free (c * 3 + 2)
      obtain ⟨y0, hy0⟩ : ∃ y0, y0 = l2.getD (c * 3) 0 := ⟨_, rfl⟩; rw [← hy0] at d0
      obtain ⟨y1, hy1⟩ : ∃ y1, y1 = l2.getD (c * 3 + 1) 0 := ⟨_, rfl⟩; rw [← hy1] at d1
      obtain ⟨y2, hy2⟩ : ∃ y2, y2 = l2.getD (c * 3 + 2) 0 := ⟨_, rfl⟩; rw [← hy2] at d2
      clear hy0 hy1 hy2
      go_wp2
      go_roundw
      case rel => exact ⟨c + 1, _, z + 1 + 1 + 1, by omega, by go_num, by go_num, by omega, by omega, (show List.length (((l2.set (c * 3) z).set (c * 3 + 1) (z + 1)).set (c * 3 + 2) (z + 1 + 1)) = n * 3 by rw [List.length_set, List.length_set, List.length_set]; exact HL2.out), ((hA.set (c * 3) z).set (c * 3 + 1) (z + 1)).set (c * 3 + 2) (z + 1 + 1), ((hB.poke (Nat.le_refl _) (Nat.lt_succ_self _) _ _).poke (Nat.le_refl _) (Nat.lt_succ_self _) _ _).poke (Nat.le_refl _) (Nat.lt_succ_self _) _ _⟩
      case measure => simp [intOf]; omega
    · obtain rfl : c = n := by omega
      have HZ := hide (show z = m + 3 * (c : Int) by omega)
      go_wp2
      go_ret
      exact ⟨ret_int HZ.out, hB⟩
end Go.Proofs.Ythbkkbcbhhmhoac
