/- Chapter 4: lists of shares: what the exact laws' helpers do with them; shares read out of what came in. -/
import Derived.Test.YtgmhodmgbhpdaabShr2
import Derived.Test.YtgmhodmgbhpdaabBodyX
import Derived.Deep.Slices
namespace Go.Proofs.Ytgmhodmgbhpdaab
open Go.ChangeShapes Go.WideShapes Go.ChangeAt Go.RowKit Go.Joins Go.Sort
set_option linter.unusedVariables false

theorem szShareS_any (sa : Option Addr) (cap n : Nat) (left : Int) (w : World) (hn : n ≤ maxLen) (h0 : 0 ≤ left) (h1 : left ≤ 2000000) :
    Calls Try.prog 19 #[.slice sa n cap, .int .i64 left] w (Same (.int .i64 (szf n left)) w) := by
  unfold maxLen at hn
  by_cases h : (n : Int) ≤ left
  · have H := hide (szf_yes h)
    go_enter Try.func19, Try.ntmps19
    go_wp2
    go_ret
    exact Same.int (by rw [H.out])
  · have H := hide (szf_no h)
    go_enter Try.func19, Try.ntmps19
    go_wp2
    go_ret
    exact Same.int (by rw [H.out])
set_option maxHeartbeats 400000 in
theorem toShare_any (x y : Int) (w : World) :
    Calls Try.prog 58 #[.agg #[.int .i64 x, .int .i64 y]] w (Ret (.agg #[.int .i64 x, .int .i64 y]) w) := by
  go_enter Try.func58, Try.ntmps58
  have x1 := ((Box.new w #[.int .i64 x, .int .i64 y] 61).push (.cells #[.int .i64 0, .int .i64 0] 40)).push (.cells #[.int .i64 0, .int .i64 0] 40)
  obtain ⟨a0, a1, _, _⟩ := x1.two
  go_wp2
  have x2 := (Box.newAt (w.alloc (.cells #[.int .i64 x, .int .i64 y] 61)) (w.heap.size + 1) #[.int .i64 x, .int .i64 y] 40 (by simp)).push (.cells #[.int .i64 x, .int .i64 y] 40)
  obtain ⟨b0, b1, _, _⟩ := x2.two
  refine bodyPost_ret (v := .agg #[.int .i64 x, .int .i64 y]) (by simp [results, Try.results58, go_sem, b0, b1]) rfl ?_
  exact ⟨rfl, (((Ext.refl w).alloc _).alloc _).alloc _⟩
theorem set_atS {m ll : List Sh} {k : Nat} (hm : m.length = ll.length) (h : ∀ j, j < k → m.getD j Sh.z = ll.getD j Sh.z) (hk : k < ll.length) :
    ∀ j, j < k + 1 → (m.set k ⟨(ll.getD k Sh.z).x, (ll.getD k Sh.z).y⟩).getD j Sh.z = ll.getD j Sh.z := by
  intro j hj
  by_cases e : j = k
  · subst e
    rw [List.getD_eq_getElem?_getD, List.getElem?_set_self (by omega)]; rfl
  · rw [List.getD_eq_getElem?_getD, List.getElem?_set_ne (Ne.symm e), ← List.getD_eq_getElem?_getD]; exact h j (by omega)
theorem ext_shX {a b : List Sh} (hl : a.length = b.length) (h : ∀ j, j < a.length → a.getD j Sh.z = b.getD j Sh.z) : a = b := by
  apply List.ext_getElem hl
  intro i h1 h2
  have := h i h1
  rw [List.getD_eq_getElem?_getD, List.getD_eq_getElem?_getD, List.getElem?_eq_getElem h1, List.getElem?_eq_getElem h2] at this
  simpa using this
set_option maxHeartbeats 400000 in
theorem toShareS_any (sa : Option Addr) (cap : Nat) (ll : List Sh) (w : World) (h : Sst w sa ll) (hl : ll.length ≤ 2000000) :
    Calls Try.prog 21 #[.slice sa ll.length cap] w (RetS ll w) := by
  have H := hide h; clear h
  have hmk := run_makeShs ll.length hl
  have HZ := hide (zeroS_len ll.length)
  have A0 := ArrS.new w (zeroS ll.length)
  have E0 := (Ext.refl w).alloc (.cells (ints (flat (zeroS ll.length))) 40)
  go_enter Try.func21, Try.ntmps21
  go_wp2
  clear hmk
  go_loopw [4] (fun i wr => ∃ (k : Nat) (m : List Sh), k ≤ ll.length ∧ i = .int .i64 k ∧ Hid (m.length = ll.length) ∧ Hid (∀ j, j < k → m.getD j Sh.z = ll.getD j Sh.z) ∧ ArrS wr w.heap.size m ∧ Ext w wr) (fun i _ => ll.length - (intOf i).toNat)
  case atStart => exact ⟨0, _, Nat.zero_le _, rfl, HZ.out, (show ∀ j, j < 0 → _ from fun j hj => absurd hj (Nat.not_lt_zero _)), A0, E0⟩
  case round =>
    clear A0 E0 HZ
    obtain ⟨k, m, hk, rfl, HM, HI, hA, hE⟩ := hrel
    by_cases hlt : k < ll.length
    · obtain ⟨g, off, rfl, hg, q0, q1⟩ := (H.out.ext hE).at hlt
      have HS := hide (set_atS HM.out HI.out hlt)
      have HL := hide (show (m.set k ⟨(ll.getD k Sh.z).x, (ll.getD k Sh.z).y⟩).length = ll.length by rw [List.length_set, HM.out])
      obtain ⟨x, hx⟩ : ∃ x, x = (ll.getD k Sh.z).x := ⟨_, rfl⟩; rw [← hx] at q0 HS HL
      obtain ⟨y, hy⟩ : ∃ y, y = (ll.getD k Sh.z).y := ⟨_, rfl⟩; rw [← hy] at q1 HS HL
      clear hx hy
      go_wp2_with fail; refine (toShare_any x y _).mono ?_; rintro e w2 ⟨rfl, E2⟩
      have hA2 := hA.keep E2
      have hE2 := hE.trans E2
      have hkm : k < m.length := by rw [HM.out]; exact hlt
      obtain ⟨d0, d1⟩ := hA2.cell hkm
      have f0 := hA2.free (k * 2)
      have f1 := hA2.free (k * 2 + 1)
      obtain ⟨y0, hy0⟩ : ∃ y0, y0 = (m.getD k Sh.z).x := ⟨_, rfl⟩; rw [← hy0] at d0
      obtain ⟨y1, hy1⟩ : ∃ y1, y1 = (m.getD k Sh.z).y := ⟨_, rfl⟩; rw [← hy1] at d1
      clear hy0 hy1
      have HA2 := hide (hA2.storeXY hkm x y)
      clear hkm
      go_wp2
      go_roundw
      case rel => exact ⟨k + 1, _, by omega, by go_num, HL, HS, HA2.out, (hE2.setCell (Nat.le_refl _) _).setCell (Nat.le_refl _) _⟩
      case measure => (first | (simp [intOf]; done) | (simp [intOf]; omega))
    · obtain rfl : k = ll.length := by omega
      have HF := hide (show m = ll from ext_shX HM.out fun j hj => HI.out j (by rw [HM.out] at hj; omega))
      go_wp2
      go_ret
      have R := hA.row (base := w.heap.size) (Nat.le_refl _) (by rw [HM.out]; exact hl)
      rw [HF.out] at R
      exact ⟨_, _, rfl, R, hE⟩
set_option maxHeartbeats 400000 in
theorem eqShare_same (x y : Int) (w : World) :
    Calls Try.prog 60 #[.agg #[.int .i64 x, .int .i64 y], .agg #[.int .i64 x, .int .i64 y]] w (Ret (.bool true) w) := by
  have h1 : ((x : Int) != x) = false := by simp
  have h2 : ((y : Int) != y) = false := by simp
  go_enter Try.func60, Try.ntmps60
  have x1 := (Box.new w #[.int .i64 x, .int .i64 y] 40).push (.cells #[.int .i64 x, .int .i64 y] 40)
  have x2 := (Box.newAt (w.alloc (.cells #[.int .i64 x, .int .i64 y] 40)) (w.heap.size + 1) #[.int .i64 x, .int .i64 y] 40 (by simp))
  obtain ⟨a0, a1, _, _⟩ := x1.two
  obtain ⟨b0, b1, _, _⟩ := x2.two
  go_wp2
  go_ret
  exact Ret.bool rfl (((Ext.refl w).alloc _).alloc _)
set_option maxHeartbeats 400000 in
theorem eqShareS_same (sa sb : Option Addr) (ca cb : Nat) (ll : List Sh) (w : World) (ha : Sst w sa ll) (hb : Sst w sb ll) (hl : ll.length ≤ 2000000) :
    Calls Try.prog 23 #[.slice sa ll.length ca, .slice sb ll.length cb] w (Ret (.bool true) w) := by
  have HA := hide ha; clear ha
  have HB := hide hb; clear hb
  have hne : ((ll.length : Int) != (ll.length : Int)) = false := by simp
  go_enter Try.func23, Try.ntmps23
  go_wp2
  go_loopw [5] (fun i wr => ∃ k : Nat, k ≤ ll.length ∧ i = .int .i64 k ∧ Ext w wr) (fun i _ => ll.length - (intOf i).toNat)
  case atStart => exact ⟨0, Nat.zero_le _, rfl, Ext.refl _⟩
  case round =>
    obtain ⟨k, hk, rfl, hE⟩ := hrel
    by_cases hlt : k < ll.length
    · have hki : (k : Int) < (ll.length : Int) := by omega
      obtain ⟨g, off, rfl, hg, q0, q1⟩ := (HA.out.ext hE).at hlt
      obtain ⟨g2, off2, rfl, hg2, p0, p1⟩ := (HB.out.ext hE).at hlt
      obtain ⟨x, hx⟩ : ∃ x, x = (ll.getD k Sh.z).x := ⟨_, rfl⟩; rw [← hx] at q0 p0
      obtain ⟨y, hy⟩ : ∃ y, y = (ll.getD k Sh.z).y := ⟨_, rfl⟩; rw [← hy] at q1 p1
      clear hx hy
      have r0 := cell_regrown q0
      have r1 := cell_regrown q1
      have t0 := cell_regrown p0
      have t1 := cell_regrown p1
      go_wp2
      refine wp_region_quiet_below (by kernel_rfl) (by kernel_rfl) ?_
      repeat (go_big_quiet_step ((first | (go_at_call 60; exact Ret.quiet (eqShare_same x y _)))))
      refine wpQuiet_nil ?_; intro w9 hq; have E9 := Ext.class hq; clear hq
      go_wp2
      go_roundw
      case rel => exact ⟨k + 1, by omega, by go_num, hE.trans E9⟩
      case measure => (first | (simp [intOf]; done) | (simp [intOf]; omega))
    · obtain rfl : k = ll.length := by omega
      go_wp2
      go_ret
      exact Ret.bool rfl hE
/-- the shares with the numbers from m on -/
def mkS (m : Int) (n : Nat) : List Sh := (List.range n).map fun (j : Nat) => ⟨m + 2 * (j : Int), m + 2 * (j : Int) + 1⟩
theorem mkS_len (m : Int) (n : Nat) : (mkS m n).length = n := by simp [mkS]
theorem mkS_at (m : Int) (n j : Nat) (h : j < n) : (mkS m n).getD j Sh.z = ⟨m + 2 * (j : Int), m + 2 * (j : Int) + 1⟩ := by
  simp [mkS, List.getD_eq_getElem?_getD, h]
theorem RowS.storeXY {base : Nat} {w : World} {b cap : Nat} {ll : List Sh} (h : RowS base w (some ⟨b, 0, none⟩) cap ll) {i : Nat} (hi : i < ll.length) (x y : Int) : RowS base ((w.setCell ⟨b, i * 2, none⟩ (.int .i64 x)).setCell ⟨b, i * 2 + 1, none⟩ (.int .i64 y)) (some ⟨b, 0, none⟩) cap (ll.set i ⟨x, y⟩) := by
  have h2 := (h.storeX hi x).storeY (i := i) (by simpa using hi) y
  have e3 : ((ll.set i ⟨x, (ll.getD i Sh.z).y⟩).getD i Sh.z).x = x := by rw [List.getD_eq_getElem?_getD, List.getElem?_set_self hi]; rfl
  rw [e3, List.set_set] at h2
  exact h2
/-- what marking leaves -/
def MarkS (lo hi : Nat) (sa : Option Addr) (m : Int) (n : Nat) (w : World) (e : Ending) (w' : World) : Prop :=
  e = .returned (.int .i64 (m + 2 * n)) ∧ Sst w' sa (mkS m n) ∧ Mid lo hi w w'
theorem mk_setS {l : List Sh} {m z : Int} {n c : Nat} (hl : l.length = n) (h : ∀ j, j < c → l.getD j Sh.z = (mkS m n).getD j Sh.z) (hc : c < n) (hz : z = m + 2 * (c : Int)) :
    ∀ j, j < c + 1 → (l.set c ⟨z, z + 1⟩).getD j Sh.z = (mkS m n).getD j Sh.z := by
  intro j hj
  by_cases e : j = c
  · subst e
    rw [mkS_at m n j hc, List.getD_eq_getElem?_getD, List.getElem?_set_self (by omega), hz]; rfl
  · rw [List.getD_eq_getElem?_getD, List.getElem?_set_ne (Ne.symm e), ← List.getD_eq_getElem?_getD]; exact h j (by omega)
set_option maxHeartbeats 400000 in
theorem markShareS_mid (lo hi : Nat) (sa : Option Addr) (cap : Nat) (ll : List Sh) (m : Int) (w : World) (h : RowS lo w sa cap ll) (hh : ∀ a, sa = some a → a.block < hi) (hl : ll.length ≤ 2000000) (hm0 : 0 ≤ m) (hm : m ≤ 8000000) :
    Calls Try.prog 31 #[.slice sa ll.length cap, .int .i64 m] w (MarkS lo hi sa m ll.length w) := by
  by_cases h0 : 0 < ll.length
  · obtain ⟨b, rfl, hb0, _, _, _⟩ := h.spot h0
    have hb1 := hh _ rfl
    have hb1' : b < hi := hb1
    obtain ⟨n, hn⟩ : ∃ n, n = ll.length := ⟨_, rfl⟩
    have HL := hide hn.symm
    have HX := hide (fun l2 (a : l2.length = n) (c : ∀ j, j < n → l2.getD j Sh.z = (mkS m n).getD j Sh.z) => (show l2 = mkS m n from ext_shX (by rw [a, mkS_len]) (fun j hj => c j (by omega))))
    rw [← hn] at hl h0 ⊢
    clear hn hh hb1
    go_enter Try.func31, Try.ntmps31
    go_wp2
    go_loopw [1, 5] (fun k i wr => ∃ (c : Nat) (l2 : List Sh) (z : Int), c ≤ n ∧ i = .int .i64 c ∧ k = .int .i64 z ∧ m + 2 * c ≤ z ∧ z ≤ m + 2 * c ∧ Hid (l2.length = n) ∧ Hid (∀ j, j < c → l2.getD j Sh.z = (mkS m n).getD j Sh.z) ∧ RowS lo wr (some ⟨b, 0, none⟩) cap l2 ∧ Mid lo hi w wr) (fun _ i _ => n - (intOf i).toNat)
    case atStart => exact ⟨0, ll, m, Nat.zero_le _, rfl, rfl, by omega, by omega, HL.out, (show ∀ j, j < 0 → _ from fun j hj => absurd hj (Nat.not_lt_zero _)), h, Mid.refl _ _ _⟩
    case round =>
      clear h HL
      obtain ⟨c, l2, z, hc, rfl, rfl, z0, z1, HL2, HJ, hR, hB⟩ := hrel
      by_cases hlt : c < n
      · have hcl : c < l2.length := by rw [HL2.out]; exact hlt
        obtain ⟨b2, eb, _, _, fz, cz⟩ := hR.spot (by omega)
        cases eb
        obtain ⟨d0, d1⟩ := cz c hcl
        have f0 := fz (c * 2)
        have f1 := fz (c * 2 + 1)
        have HS := hide (mk_setS HL2.out HJ.out hlt (show z = m + 2 * (c : Int) by omega))
        have HL3 := hide (show (l2.set c ⟨z, z + 1⟩).length = n by rw [List.length_set]; exact HL2.out)
        have HR3 := hide (hR.storeXY hcl z (z + 1))
        obtain ⟨y0, hy0⟩ : ∃ y0, y0 = (l2.getD c Sh.z).x := ⟨_, rfl⟩; rw [← hy0] at d0
        obtain ⟨y1, hy1⟩ : ∃ y1, y1 = (l2.getD c Sh.z).y := ⟨_, rfl⟩; rw [← hy1] at d1
        clear hy0 hy1 hcl fz cz
        go_wp2
        go_roundw
        case rel => exact ⟨c + 1, _, z + 1 + 1, by omega, by go_num, by go_num, by omega, by omega, HL3, HS, HR3.out, (hB.poke hb0 hb1' _ _).poke hb0 hb1' _ _⟩
        case measure => (first | (simp [intOf]; done) | (simp [intOf]; omega))
      · obtain rfl : c = n := by omega
        have HZ := hide (show z = m + 2 * (c : Int) by omega)
        have HE := hide (HX.out l2 HL2.out HJ.out)
        go_wp2
        go_ret
        refine ⟨ret_int HZ.out, ?_, hB⟩
        have := hR.sst
        rw [HE.out] at this
        exact this
  · have e : ll = [] := List.length_eq_zero_iff.1 (by omega)
    subst e
    go_enter Try.func31, Try.ntmps31
    go_wp2
    go_loopw [1, 5] (fun k i wr => i = .int .i64 0 ∧ k = .int .i64 m ∧ w = wr) (fun _ _ _ => 0)
    case atStart => exact ⟨rfl, rfl, rfl⟩
    case round =>
      obtain ⟨rfl, rfl, rfl⟩ := hrel
      go_wp2
      go_ret
      exact ⟨ret_int (by simp), .inl rfl, Mid.refl _ _ _⟩
set_option maxHeartbeats 400000 in
theorem heldShareS_any (sa : Option Addr) (cap n : Nat) (m : Int) (w : World) (h : Sst w sa (mkS m n)) (hl : n ≤ 2000000) (hm0 : 0 ≤ m) (hm : m ≤ 8000000) :
    Calls Try.prog 32 #[.slice sa n cap, .int .i64 m] w (Same (.int .i64 (m + 2 * n)) w) := by
  have H := hide h; clear h
  have HAT := hide (fun j (hj : j < n) => mkS_at m n j hj)
  have HLN := hide (mkS_len m n)
  obtain ⟨L, hL⟩ : ∃ L, L = mkS m n := ⟨_, rfl⟩; rw [← hL] at H HAT HLN
  clear hL
  go_enter Try.func32, Try.ntmps32
  go_wp2
  go_loop [1, 5] (fun k i => ∃ (c : Nat) (z : Int), c ≤ n ∧ i = .int .i64 c ∧ k = .int .i64 z ∧ m + 2 * c ≤ z ∧ z ≤ m + 2 * c) (fun _ i => n - (intOf i).toNat)
  case atStart => exact ⟨0, m, Nat.zero_le _, rfl, rfl, by omega, by omega⟩
  case round =>
    obtain ⟨c, z, hc, rfl, rfl, z0, z1⟩ := hrel
    by_cases hlt : c < n
    · obtain ⟨g, off, rfl, hg, c0, c1⟩ := H.out.at (i := c) (by rw [HLN.out]; exact hlt)
      rw [HAT.out c hlt] at c0 c1
      have c0 : w.cell? ⟨g, off + c * 2, none⟩ = some (.int .i64 z) := by rw [c0]; congr 2; show m + 2 * (c : Int) = z; omega
      have c1 : w.cell? ⟨g, off + c * 2 + 1, none⟩ = some (.int .i64 (z + 1)) := by rw [c1]; congr 2; show m + 2 * (c : Int) + 1 = z + 1; omega
      have hd0 : ((z : Int) != z) = false := by simp
      have hd1 : ((z + 1 : Int) != z + 1) = false := by simp
      go_wp2
      go_round
      case rel => exact ⟨c + 1, z + 1 + 1, by omega, by go_num, by go_num, by omega, by omega⟩
      case measure => (first | (simp [intOf]; done) | (simp [intOf]; omega))
    · obtain rfl : c = n := by omega
      have HZ := hide (show z = m + 2 * (c : Int) by omega)
      go_wp2
      go_ret
      exact Same.int HZ.out
theorem shs_open {H : Type} {enc : TypeId × Value → H} {P : Program} {w : World} {base : Nat} {spare : Nat → Bool} {held : Bool} {t e : TypeId} {f0 f1 : Field} {fuel : Nat} {cs : List Value} {x : DataW H × List MemPlace} (ht : P.underlying t = some (.slice e)) (he : P.underlying e = some (.struct #[f0, f1]))
    (ce : P.cellsOf e = 2) (o0 : f0.offset = 0) (o1 : f1.offset = 1) (c0 : P.cellsOf f0.type = 1) (c1 : P.cellsOf f1.type = 1)
    (u0 : P.underlying f0.type = some (.int .i64)) (u1 : P.underlying f1.type = some (.int .i64))
    (h : DataW.trod enc P w base spare held fuel t cs = some x) : ∃ (sa : Option Addr) (cap : Nat) (ll : List Sh), cs = [.slice sa ll.length cap] ∧ Sst w sa ll ∧ ll.length ≤ maxLen := by
  rcases Go.Deep.open_slice ht h with ⟨rfl, _⟩ | ⟨a, len, cap, m, n, D, Pl, rfl, _, hl, hm, hmm, _, hx⟩
  · exact ⟨none, 0, [], rfl, .inl rfl, by unfold maxLen; simp⟩
  · have hlm : len ≤ m := by rw [hmm]; split <;> omega
    have each : ∀ i, ∃ r : Sh, i < len → w.cell? (a.add (i * 2)) = some (.int .i64 r.x) ∧ w.cell? (a.add (i * 2 + 1)) = some (.int .i64 r.y) := by
      intro i
      by_cases hi : i < len
      · obtain ⟨cs', h1, h2⟩ := hx i (by omega)
        rw [ce] at h1
        obtain ⟨_, hlen, hcell⟩ := World.cells?_some h1
        obtain ⟨xs, k, hk, hxy, _, hxl, hf⟩ := DataW.trod_struct he h2
        match xs, hxl, cs', hlen with
        | [y0, y1], _, [v0, v1], _ =>
          have g0 := hf 0 f0 rfl
          have g1 := hf 1 f1 rfl
          simp [o0, o1, c0, c1] at g0 g1
          have e0 := hcell 0 (by omega)
          have e1 := hcell 1 (by omega)
          rw [Go.Deep.add_add] at e0 e1
          obtain ⟨a0, q0, _, _⟩ := DataW.trod_int u0 g0
          obtain ⟨a1, q1, _, _⟩ := DataW.trod_int u1 g1
          simp at q0 q1
          subst q0 q1
          exact ⟨⟨a0, a1⟩, fun _ => ⟨by simpa using e0, by simpa using e1⟩⟩
      · exact ⟨Sh.z, fun h => absurd h hi⟩
    obtain ⟨F, hF⟩ := Classical.axiomOfChoice each
    have hat : ∀ i, i < len → ((List.range len).map F).getD i Sh.z = F i := fun i hi => by simp [List.getD_eq_getElem?_getD, hi]
    have hll : ((List.range len).map F).length = len := by simp
    refine ⟨some a, cap, (List.range len).map F, by rw [hll], ?_, by rw [hll]; omega⟩
    by_cases h0 : len = 0
    · left; rw [h0]; rfl
    · obtain ⟨b, off, spot⟩ := a
      obtain ⟨hc0, _⟩ := hF 0 (by omega)
      have hspot : spot = none := by simpa [Addr.add] using World.cell?_spot hc0
      subst hspot
      have ea : ∀ i, (⟨b, off, none⟩ : Addr).add i = ⟨b, off + i, none⟩ := by
        intro i; unfold Addr.add; split <;> simp_all
      refine .inr ⟨b, off, rfl, ?_, fun i hi => ?_⟩
      · rw [ea] at hc0; exact World.block_lt_of_cell? _ _ hc0
      · rw [hll] at hi
        obtain ⟨h1, h2⟩ := hF i hi
        rw [ea] at h1 h2
        rw [hat i hi]
        exact ⟨h1, h2⟩
end Go.Proofs.Ytgmhodmgbhpdaab
