/- Chapter 4: polynomials times a place, the polynomial through shares: contracts of the program and of the model. -/
import Derived.Test.YtgmhodmgbhpdaabShr3
namespace Go.Proofs.Ytgmhodmgbhpdaab
open Go.ChangeShapes Go.WideShapes Go.ChangeAt Go.RowKit Go.Joins Go.Sort
set_option linter.unusedVariables false

/-- what a call answers that makes a list with a property -/
def RetP (P : List Int → Prop) (w : World) (e : Ending) (w' : World) : Prop :=
  ∃ (q : List Int) (sa : Option Addr) (cap : Nat), e = .returned (.slice sa q.length cap) ∧ P q ∧ Row w.heap.size w' sa cap q ∧ Ext w w'
def tmx (l : List Int) (x : Int) (q : List Int) : Prop := q.length = l.length + 1 ∧ rg q ∧ ∀ t, (251 : Int) ∣ ev q t - (t - x) * ev l t
theorem zeros_rep (n : Nat) : zeros n = List.replicate n 0 := rfl
theorem make1 (n : Nat) (hn : n ≤ 1000000) (w : World) : (Instr.makeSlice 35 (.int .i64 ((n : Int) + 1)) (.int .i64 ((n : Int) + 1))).run Try.prog w =
    .ok (.slice (some ⟨w.heap.size, 0, none⟩) (n + 1) (n + 1)) (w.alloc (.cells (ints (zeros (n + 1))) 3)) := run_makeInts (n + 1) (by omega) w
theorem set2_len (m : List Int) (i j : Nat) (x y : Int) : ((m.set i x).set j y).length = m.length := by rw [List.length_set, List.length_set]
set_option maxHeartbeats 800000 in
theorem implWZ (sa : Option Addr) (cap n : Nat) (l : List Int) (x : Int) (w : World) (h : Lst w sa l) (hn : l.length = n) (hl : n ≤ 1000000) (hr : rg l) (x0 : 0 ≤ x) (x1 : x ≤ 250) :
    Calls Try.prog 79 #[.slice sa n cap, .int .i64 x] w (RetP (tmx l x) w) := by
  subst hn
  have H := hide h; clear h
  have HR := hide hr; clear hr
  have hmk := make1 l.length hl
  have HZ := hide (And.intro (zeros_len (l.length + 1)) (And.intro (rg_zeros (l.length + 1)) (And.intro (mulx_zero (l.length + 1) l x) (fun j (_ : 0 < j) => zeros_at (l.length + 1) j))))
  have A0 := Arr.new w (zeros (l.length + 1))
  have E0 := (Ext.refl w).alloc (.cells (ints (zeros (l.length + 1))) 3)
  go_enter Try.func79, Try.ntmps79
  go_wp2
  clear hmk
  go_loopw [14] (fun i wr => ∃ (k : Nat) (m : List Int), k ≤ l.length ∧ i = .int .i64 k ∧ Hid (m.length = l.length + 1) ∧ Hid (rg m) ∧ Hid (mulx m l x k) ∧ Hid (∀ j, k < j → m.getD j 0 = 0) ∧ Arr wr w.heap.size m ∧ Ext w wr) (fun i _ => l.length - (intOf i).toNat)
  case atStart => exact ⟨0, _, Nat.zero_le _, rfl, HZ.out.1, HZ.out.2.1, HZ.out.2.2.1, HZ.out.2.2.2, A0, E0⟩
  case round =>
    clear A0 E0 HZ
    obtain ⟨k, m, hk, rfl, HM, HG, HX, HZ, hA, hE⟩ := hrel
    by_cases hlt : k < l.length
    · obtain ⟨g, off, rfl, hg, c0⟩ := (H.out.ext hE).at hlt
      have hc := rg_at HR.out k
      have hy := rg_at HG.out k
      have d0 := hA.cell (j := k) (by rw [HM.out]; omega)
      have d1 := hA.cell (j := k + 1) (by rw [HM.out]; omega)
      have f0 := hA.free k
      have f1 := hA.free (k + 1)
      have HS := hide (mulx_impl HX.out hlt (by rw [HM.out]; omega) (HZ.out _ (Nat.lt_succ_self k)))
      have HL := hide (fun (u v : Int) => (set2_len m k (k + 1) u v).trans HM.out)
      have HG2 := hide (fun (u v : Int) (u0 : 0 ≤ u) (u1 : u ≤ 250) (v0 : 0 ≤ v) (v1 : v ≤ 250) => rg_set (rg_set HG.out k u0 u1) (k + 1) v0 v1)
      have HZ2 := hide (fun (u v : Int) => (show ∀ j, k + 1 < j → ((m.set k u).set (k + 1) v).getD j 0 = 0 from fun j hj => by rw [get_set (by omega), get_set (by omega)]; exact HZ.out j (by omega)))
      obtain ⟨c, hc2⟩ : ∃ c, c = l.getD k 0 := ⟨_, rfl⟩; rw [← hc2] at c0 hc HS
      obtain ⟨y, hy2⟩ : ∃ y, y = m.getD k 0 := ⟨_, rfl⟩; rw [← hy2] at d0 hy HS
      obtain ⟨z, hz⟩ : ∃ z, z = m.getD (k + 1) 0 := ⟨_, rfl⟩; rw [← hz] at d1
      clear hc2 hy2 hz
      have hb := mulB hc.1 hc.2 (show 0 ≤ 251 - x by omega) (by omega)
      go_wp2
      go_roundw
      case rel => exact ⟨k + 1, _, by omega, by go_num, HL.out _ _, HG2.out _ _ (by omega) (by omega) hc.1 hc.2, HS, HZ2.out _ _, (hA.set k _).set (k + 1) _, (hE.setCell (Nat.le_refl _) _).setCell (Nat.le_refl _) _⟩
      case measure => (first | (simp [intOf]; done) | (simp [intOf]; omega))
    · obtain rfl : k = l.length := by omega
      go_wp2
      go_ret
      have R := hA.row (base := w.heap.size) (Nat.le_refl _) (by rw [HM.out]; omega)
      rw [HM.out] at R
      exact ⟨m, some ⟨w.heap.size, 0, none⟩, l.length + 1, by rw [HM.out]; rfl, ⟨HM.out, HG.out, mulx_end HX.out⟩, R, hE⟩
set_option maxHeartbeats 800000 in
theorem specTimes (sa : Option Addr) (cap n : Nat) (l : List Int) (x : Int) (w : World) (h : Lst w sa l) (hn : l.length = n) (hl : n ≤ 1000000) (hr : rg l) (x0 : 0 ≤ x) (x1 : x ≤ 250) :
    Calls Try.prog 83 #[.slice sa n cap, .int .i64 x] w (RetP (tmx l x) w) := by
  subst hn
  have H := hide h; clear h
  have HR := hide hr; clear hr
  have hmk := make1 l.length hl
  have HZ := hide (And.intro (zeros_len (l.length + 1)) (And.intro (rg_zeros (l.length + 1)) (mulx_zero (l.length + 1) l x)))
  have A0 := Arr.new w (zeros (l.length + 1))
  have E0 := (Ext.refl w).alloc (.cells (ints (zeros (l.length + 1))) 3)
  go_enter Try.func83, Try.ntmps83
  go_wp2
  clear hmk
  go_loopw [6] (fun i wr => ∃ (k : Nat) (m : List Int), k ≤ l.length ∧ i = .int .i64 k ∧ Hid (m.length = l.length + 1) ∧ Hid (rg m) ∧ Hid (mulx m l x k) ∧ Arr wr w.heap.size m ∧ Ext w wr) (fun i _ => l.length - (intOf i).toNat)
  case atStart => exact ⟨0, _, Nat.zero_le _, rfl, HZ.out.1, HZ.out.2.1, HZ.out.2.2, A0, E0⟩
  case round =>
    clear A0 E0 HZ
    obtain ⟨k, m, hk, rfl, HM, HG, HX, hA, hE⟩ := hrel
    by_cases hlt : k < l.length
    · have hki : (k : Int) < (l.length : Int) := by omega
      obtain ⟨g, off, rfl, hg, c0⟩ := (H.out.ext hE).at hlt
      have HC := hide (fun w2 (e : Mid w.heap.size (w.heap.size + 1) wr w2) => c0)
      have hc := rg_at HR.out k
      have hy := rg_at HG.out k
      have hz := rg_at HG.out (k + 1)
      have d0 := hA.cell (j := k) (by rw [HM.out]; omega)
      have d1 := hA.cell (j := k + 1) (by rw [HM.out]; omega)
      have f0 := hA.free k
      have f1 := hA.free (k + 1)
      have HS := hide (mulx_spec HX.out hlt (by rw [HM.out]; omega))
      have HL := hide (fun (u v : Int) => (set2_len m (k + 1) k u v).trans HM.out)
      have HG2 := hide (fun (u v : Int) (u0 : 0 ≤ u) (u1 : u ≤ 250) (v0 : 0 ≤ v) (v1 : v ≤ 250) => rg_set (rg_set HG.out (k + 1) u0 u1) k v0 v1)
      have hgw : g ≠ w.heap.size := by
        rcases H.out with h | ⟨g2, o2, e2, h2, _⟩
        · rw [h] at hlt; simp at hlt
        · cases e2; omega
      obtain ⟨c, hc2⟩ : ∃ c, c = l.getD k 0 := ⟨_, rfl⟩; rw [← hc2] at c0 hc HS
      obtain ⟨y, hy2⟩ : ∃ y, y = m.getD k 0 := ⟨_, rfl⟩; rw [← hy2] at d0 hy HS
      obtain ⟨z, hz2⟩ : ∃ z, z = m.getD (k + 1) 0 := ⟨_, rfl⟩; rw [← hz2] at d1 hz HS
      clear hc2 hy2 hz2 HC
      have hb := mulB hc.1 hc.2 (show 0 ≤ 251 - x by omega) (by omega)
      obtain ⟨u, hu⟩ : ∃ u, u = (z + c) % 251 := ⟨_, rfl⟩
      obtain ⟨v, hv⟩ : ∃ v, v = (y + c * (251 - x)) % 251 := ⟨_, rfl⟩
      rw [← hu, ← hv] at HS
      have hu0 : 0 ≤ u ∧ u ≤ 250 := by omega
      have hv0 : 0 ≤ v ∧ v ≤ 250 := by omega
      have hs1 : IntKind.i64.wrap (z + c) = z + c := IntWalk.i64_in _ (by omega)
      have hs2 : (z + c).tmod 251 = u := by rw [Int.tmod_eq_emod_of_nonneg (by omega)]; exact hu.symm
      have hs2' : (z + c) % 251 = u := hu.symm
      have hs3 : IntKind.i64.wrap ((k : Int) + 1) = (k : Int) + 1 := IntWalk.i64_in _ (by omega)
      have hs4 : IntKind.i64.wrap (251 - x) = 251 - x := IntWalk.i64_in _ (by omega)
      have hs5 : IntKind.i64.wrap (c * (251 - x)) = c * (251 - x) := IntWalk.i64_in _ (by omega)
      have hs6 : IntKind.i64.wrap (y + c * (251 - x)) = y + c * (251 - x) := IntWalk.i64_in _ (by omega)
      have hs7 : (y + c * (251 - x)).tmod 251 = v := by rw [Int.tmod_eq_emod_of_nonneg (by omega)]; exact hv.symm
      have hs7' : (y + c * (251 - x)) % 251 = v := hv.symm
      have hs8 : ((k : Int) + 1).toNat = k + 1 := by omega
      have hs9 : (0 : Int) ≤ (k : Int) + 1 := by omega
      have hs10 : (k : Int) + 1 < (l.length : Int) + 1 := by omega
      have hs12 : (k : Int) < (l.length : Int) + 1 := by omega
      have hA3 := (hA.set (k + 1) u).drew
      have hE3 := (hE.setCell (k := w.heap.size) (o := k + 1) (Nat.le_refl _) (.int .i64 u)).drew
      have e0 : ((wr.setCell ⟨w.heap.size, k + 1, none⟩ (.int .i64 u)).drew).cell? ⟨w.heap.size, k, none⟩ = some (.int .i64 y) := by
        show (wr.setCell ⟨w.heap.size, k + 1, none⟩ (.int .i64 u)).cell? _ = _
        rw [World.cell?_setCell_other _ _ _ _ (by simp)]; exact d0
      have e1 : ((wr.setCell ⟨w.heap.size, k + 1, none⟩ (.int .i64 u)).drew).cell? ⟨g, off + k, none⟩ = some (.int .i64 c) := by
        show (wr.setCell ⟨w.heap.size, k + 1, none⟩ (.int .i64 u)).cell? _ = _
        rw [World.cell?_setCell_other _ _ _ _ (by first | omega | (simp; done) | (simp; omega))]; exact c0
      have e2 := hA3.free k
      clear hu hv
      go_wp2
      refine wp_region_still_tail 15 (by kernel_rfl) (by kernel_rfl) ?_
      simp only [List.take_succ_cons, List.take_zero, List.drop_succ_cons, List.drop_zero]
      repeat still_step
      refine wpStill_nil ?_
      change wpList _ _ _ _ _ (World.drew _)
      go_wp2
      obtain ⟨W3, hW3⟩ : ∃ W3, W3 = (wr.setCell ⟨w.heap.size, k + 1, none⟩ (.int .i64 u)).drew := ⟨_, rfl⟩; rw [← hW3] at hA3 hE3 e0 e1 e2 ⊢
      clear hW3 c0 d0 d1 f0 f1
      refine wp_region_still_tail 16 (by kernel_rfl) (by kernel_rfl) ?_
      simp only [List.take_succ_cons, List.take_zero, List.drop_succ_cons, List.drop_zero]
      repeat still_step
      refine wpStill_nil ?_
      change wpList _ _ _ _ _ (World.drew _)
      clear hs1 hs2 hs2' hs3 hs4 hs5 hs6 hs7 hs7' hs8 hs9 hs10 hs12
      go_wp2
      go_roundw
      case rel => exact ⟨k + 1, _, by omega, by go_num, HL.out u v, HG2.out u v hu0.1 hu0.2 hv0.1 hv0.2, HS, (hA3.set k v).drew, (hE3.setCell (Nat.le_refl _) _).drew⟩
      case measure => (first | (simp [intOf]; done) | (simp [intOf]; omega))
    · have hkl : k = l.length := by omega
      have hki : decide ((k : Int) < (l.length : Int)) = false := decide_eq_false (by omega)
      have HX2 := hide (show mulx m l x l.length by rw [← hkl]; exact HX.out)
      clear hkl
      go_wp2
      go_ret
      have R := hA.row (base := w.heap.size) (Nat.le_refl _) (by rw [HM.out]; omega)
      rw [HM.out] at R
      exact ⟨m, some ⟨w.heap.size, 0, none⟩, l.length + 1, by rw [HM.out]; rfl, ⟨HM.out, HG.out, mulx_end HX2.out⟩, R, hE⟩
end Go.Proofs.Ytgmhodmgbhpdaab
