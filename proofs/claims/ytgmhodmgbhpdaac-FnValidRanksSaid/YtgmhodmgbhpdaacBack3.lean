/- Chapter 2: a row less: where its lists lie; the walk of the law of valid preferences, at drawn arguments. -/
import Derived.Test.YtgmhodmgbhpdaacBack2
import Derived.Deep.RegionHeld3
import Derived.Deep.AppendLies
import Derived.Deep.AppendSrc
namespace Go.Proofs.Ytgmhodmgbhpdaac
open Go.ChangeShapes Go.WideShapes Go.ChangeAt Go.RowKit Go.Joins Go.Sort
set_option linter.unusedVariables false

theorem getD_butG {α : Type} (d : α) (rk : List α) {i j : Nat} (hi : i < rk.length) : (rk.take i ++ rk.drop (i + 1)).getD j d = rk.getD (if j < i then j else j + 1) d := by
  rw [List.getD_eq_getElem?_getD, List.getD_eq_getElem?_getD]
  by_cases h : j < i
  · rw [if_pos h, List.getElem?_append_left (by rw [List.length_take]; omega), List.getElem?_take, if_pos h]
  · rw [if_neg h, List.getElem?_append_right (by rw [List.length_take]; omega), List.getElem?_drop, List.length_take, Nat.min_eq_left (by omega), show i + 1 + (j - i) = j + 1 by omega]
theorem HRow.cap {base : Nat} {w : World} {sa : Option Addr} {cap : Nat} {ll : List (List Int)} {hs : Heads} (r : HRow base w sa cap ll hs) : ll.length ≤ cap := by
  obtain ⟨h1, h2⟩ := r.own
  rcases h2 with ⟨h2, h3⟩ | ⟨g, c, cur, h2, h3, h4, h5, _⟩
  · omega
  · simp only [Value.slice.injEq] at h2; omega
def Hst (w : World) (sx : Option Addr) (l : List (List Int)) (hs2 : Heads) : Prop :=
  l = [] ∨ ∃ g off, sx = some ⟨g, off, none⟩ ∧ ∀ i, i < l.length → w.cell? ⟨g, off + i, none⟩ = some (hcell (hs2.getD i (none, 0)) (l.getD i []))
theorem Mat.heads {base : Nat} {w : World} {sa : Option Addr} {cap : Nat} {ll : List (List Int)} {hs : Heads} (M : Mat base w sa cap ll hs) (h0 : 0 < ll.length) :
    ∃ g, sa = some ⟨g, 0, none⟩ ∧ g < w.heap.size ∧ ∀ i, i < ll.length → w.cell? ⟨g, i, none⟩ = some (hcell (hs.getD i (none, 0)) (ll.getD i [])) := by
  rcases M.form with ⟨_, h⟩ | ⟨g, cur, h1, h2, h3, h4⟩
  · subst h; simp at h0
  · refine ⟨g, h1, size_of_heap h3, fun i hi => ?_⟩
    rw [cell_of_block h3, h4 i hi]
theorem hst_take {w w' : World} {g : Nat} {ll : List (List Int)} {hs : Heads} (hg : g < w.heap.size) (h : ∀ i, i < ll.length → w.cell? ⟨g, i, none⟩ = some (hcell (hs.getD i (none, 0)) (ll.getD i []))) (e : Ext w w') (k : Nat) (hk : k ≤ ll.length) :
    Hst w' (some ⟨g, 0, none⟩) (ll.take k) (hs.take k) := by
  refine .inr ⟨g, 0, rfl, fun i hi => ?_⟩
  rw [List.length_take] at hi
  have := (e.cell (o := i) hg).trans (h i (by omega))
  rw [Nat.zero_add, this]
  rw [List.getD_eq_getElem?_getD, List.getD_eq_getElem?_getD, List.getD_eq_getElem?_getD, List.getD_eq_getElem?_getD, List.getElem?_take, List.getElem?_take, if_pos (by omega), if_pos (by omega)]
theorem hst_drop {w w' : World} {g : Nat} {ll : List (List Int)} {hs : Heads} (hg : g < w.heap.size) (h : ∀ i, i < ll.length → w.cell? ⟨g, i, none⟩ = some (hcell (hs.getD i (none, 0)) (ll.getD i []))) (e : Ext w w') (k : Nat) :
    Hst w' (some ⟨g, k, none⟩) (ll.drop k) (hs.drop k) := by
  refine .inr ⟨g, k, rfl, fun i hi => ?_⟩
  rw [List.length_drop] at hi
  have := (e.cell (o := k + i) hg).trans (h (k + i) (by omega))
  rw [this]
  rw [List.getD_eq_getElem?_getD, List.getD_eq_getElem?_getD, List.getD_eq_getElem?_getD, List.getD_eq_getElem?_getD, List.getElem?_drop, List.getElem?_drop]
theorem but_rows {base : Nat} {w w' : World} {sa : Option Addr} {cap : Nat} {ll : List (List Int)} {hs : Heads} (M : Mat base w sa cap ll hs) (e : Ext w w') {k : Nat} (hk : k < ll.length) :
    ∀ j, j < ([] ++ ll.take k ++ ll.drop (k + 1)).length → Lst w' (([] ++ hs.take k ++ hs.drop (k + 1)).getD j (none, 0)).1 (([] ++ ll.take k ++ ll.drop (k + 1)).getD j []) ∧ (([] ++ ll.take k ++ ll.drop (k + 1)).getD j []).length ≤ (([] ++ hs.take k ++ hs.drop (k + 1)).getD j (none, 0)).2 := by
  intro j hj
  rw [List.nil_append] at hj ⊢
  rw [List.nil_append, getD_butG [] ll hk, getD_butG (none, 0) hs (by rw [M.len]; exact hk)]
  rw [List.length_append, List.length_take, List.length_drop] at hj
  have R := M.row (if j < k then j else j + 1) (by split <;> omega)
  exact ⟨(R.ext e).lst, R.cap⟩
theorem step_append_heads {ops : Array Oper} {o : Oper} {a : Act} {K : Act → World → Prop} {Q : Exit → Act → World → Prop} {E : Prop} {s x : Operand} (hgd : Region.wanted o (yielded ops a.tmps) = true)
    (ho : o.op = .call { callee := .builtin .append, args := #[s, x], argTypes := #[44, 44] }) {base : Nat} {w1 : World} {sa sx : Option Addr} {n m cap cx : Nat} {l1 l : List (List Int)} {hs1 hs2 : Heads}
    (hse : a.eval s = .slice sa n cap) (hx : a.eval x = .slice sx m cx) (hn : l1.length = n) (hm : l.length = m) (R : HRow base w1 sa cap l1 hs1) (h2 : hs2.length = l.length) (hl1 : n ≤ 1000000) (hl : m ≤ 1000000) (hb : base ≤ w1.heap.size)
    (hc : Hst w1 sx l hs2)
    (h : ∀ sg cap' w', HRow base w' sg cap' (l1 ++ l) (hs1 ++ hs2) → Below base w1 w' → K (a.put o.dst (.slice sg (n + m) cap')) w') :
    if Region.wanted o (yielded ops a.tmps) = true then Oper.wp Try.prog o a w1 K Q else E := by
  subst hn hm
  rw [if_pos hgd]
  obtain ⟨i0, hi, hz0, hz1, hz2⟩ := info_parts Try.infoRow
  by_cases h0 : 0 < l.length
  · rcases hc with hc | ⟨g, off, rfl, hc⟩
    · rw [hc] at h0; simp at h0
    refine wp_append_lies w1 s x 44 ho base 22 i0 (.slice none 0 0) 1 24 Try.underlying44 hi hz0 hz1 hz2 rfl (by decide) _ _ _ hse R.own ⟨g, off, none⟩ l.length cx (cellsM hs2 l) hx (by rw [cellsM_len h2]; simp) ?_ ?_ h0 (by unfold maxLen; omega) (by omega) hb _ rfl ?_
    · intro j u hj
      by_cases hjl : j < l.length
      · rw [cellsM_at h2 hjl] at hj
        have := hc j hjl
        obtain rfl := Option.some.inj hj
        rw [add_addr]; exact this
      · rw [List.getElem?_eq_none (by rw [cellsM_len h2]; omega)] at hj; simp at hj
    · intro u hu
      obtain ⟨j, hj, e⟩ := List.getElem_of_mem hu
      have e2 := cellsM_at h2 (show j < l.length by rw [cellsM_len h2] at hj; exact hj)
      rw [List.getElem?_eq_getElem hj, e] at e2
      obtain rfl := Option.some.inj e2
      rfl
    · intro g' cap' w2 hown hgrow hat hlt
      refine h (some ⟨g', 0, none⟩) cap' w2 ⟨by rw [List.length_append, List.length_append, R.len, h2], ?_⟩ ((Below.refl _ _).grown hgrow hb fun k hk => (World.ownsRow.lt R.own k hk).1)
      rw [List.length_append, show cellsM (hs1 ++ hs2) (l1 ++ l) = cellsM hs1 l1 ++ cellsM hs2 l by unfold cellsM; rw [List.zipWith_append R.len]]
      exact hown
  · have e : l = [] := List.length_eq_zero_iff.1 (by omega)
    subst e
    have e2 : hs2 = [] := List.length_eq_zero_iff.1 h2
    subst e2
    have hsrc : Src Try.prog i0.size 44 (.slice sx 0 cx) 0 [] w1 := by
      cases sx with
      | none => exact Src.ofNil w1 Try.underlying44 cx
      | some ad => exact Src.ofSlice w1 Try.underlying44 ad 0 cx [] (by simp) (fun j u hj => by simp at hj) (by simp)
    have hrun := run_append_nothing (P := Try.prog) w1 44 44 o.type 22 i0 Try.underlying44 hi sa l1.length cap R.cap (.slice sx 0 cx) hsrc
    unfold Oper.wp
    simp [execOp, ho, resolve, invoke, builtin, hse, hx, hrun, Result.andThen]
    exact h sa cap w1 (by rw [List.append_nil, List.append_nil]; exact R) (Below.refl _ _)
theorem len_snocL (o : List (List Int)) (x : List Int) : o.length + 1 = (o ++ [x]).length := by simp
theorem rev_rows {ll : List (List Int)} {k : Nat} (h : k < ll.length) : (ll.take k).map List.reverse ++ [(ll.getD k []).reverse] = (ll.take (k + 1)).map List.reverse := by
  rw [List.take_succ_eq_append_getElem h, List.map_append, List.getD_eq_getElem?_getD, List.getElem?_eq_getElem h]; rfl
theorem implVRat (sa : Option Addr) (cap n : Nat) (rk : List (List Int)) (w : World) (h : Mst w sa rk) (hn : rk.length = n) (hl : n ≤ 2000000) (hr : ∀ i, i < rk.length → (rk.getD i []).length ≤ 2000000) (hv : vr rk = true) :
    Calls Try.prog 49 #[.slice sa n cap] w (Same (.bool true) w) := by
  subst hn; exact Same.eqB (implVR sa cap rk w h hl hr) hv
theorem specVRat (sa : Option Addr) (cap : Nat) (rk : List (List Int)) (w : World) (h : Mst w sa rk) (hl : rk.length ≤ 2000000) (hr : ∀ i, i < rk.length → (rk.getD i []).length ≤ 2000000) {b : Bool} (hv : vr rk = b) :
    Calls Try.prog 50 #[.slice sa rk.length cap] w (Ret (.bool b) w) := Ret.eqB (specVR sa cap rk w h hl hr) hv
set_option maxRecDepth 100000 in
set_option maxHeartbeats 1600000 in
theorem walkFnValidRanks (w : World) (sa : Option Addr) (len cap : Nat) (h : Code w sa len cap) (hl : len ≤ maxLen) :
    Calls Try.prog 14 #[.slice sa len cap] w fun e w' => e = .returned (.bool true) ∧ Below w.heap.size w w' := by
  have hl' := hl
  unfold maxLen at hl'
  by_cases hbig : 1048576 < len
  · clear h hl
    go_enter Try.func14, Try.ntmps14
    go_wp2
    go_ret
    exact ⟨rfl, Below.refl _ _⟩
  go_enter Try.func14, Try.ntmps14
  go_wp2_with fail
  refine (dDrawValidRanks sa len cap w h hl).mono ?_
  rintro e w1 ⟨sb, cb, ll, hs, rfl, HM1, l1, l2, hrl, E1⟩
  clear h hl hl' hbig
  have HMM := hide HM1
  have HRL := hide (fun i (hi : i < ll.length) => Nat.le_trans (hrl i hi) (show 6 ≤ 2000000 by omega))
  clear HM1 hrl
  by_cases hv : vr ll = true
  · go_wp2_with fail; refine (Same.eqB (implVR sb cb ll _ HMM.out.mst (by omega) HRL.out) hv).mono ?_; rintro e w' ⟨rfl, rfl⟩
    go_wp2_with fail; refine (specVRat sb cb ll _ HMM.out.mst (by omega) HRL.out hv).mono ?_; rintro e w2 ⟨rfl, E2⟩
    have HVR := hide hv
    clear hv
    have MB0 := Mat.made w2.heap.size w2 (Nat.le_refl _)
    have HMB := hide MB0
    clear MB0
    obtain ⟨gm, rfl, hgm, hce⟩ := HMM.out.heads (by omega)
    have HCE := hide hce
    have hcap : ll.length ≤ cb := (show HRow _ _ _ cb ll hs from ⟨HMM.out.len, HMM.out.own⟩).cap
    clear hce
    go_wp2
    go_loopw [5, 6] (fun u i wr => ∃ (k : Nat) (s5 : Option Addr) (c5 : Nat) (o : List (List Int)) (hs5 : Heads), k ≤ ll.length ∧ i = .int .i64 k ∧ u = .slice s5 o.length c5 ∧ o.length ≤ k ∧ Hid (o = (ll.take k).map List.reverse) ∧ Mat w2.heap.size wr s5 c5 o hs5 ∧ Ext w2 wr) (fun _ i _ => ll.length - (intOf i).toNat)
    case atStart => exact ⟨0, _, 0, [], [], Nat.zero_le _, rfl, rfl, Nat.le_refl _, (show [] = (ll.take 0).map List.reverse from rfl), HMB.out, (Ext.refl w2).alloc _⟩
    case round =>
      obtain ⟨k, s5, c5, o, hs5, hk, rfl, rfl, ho, HO, M5, hE⟩ := hrel
      by_cases hlt : k < ll.length
      · have hki : (k : Int) < (ll.length : Int) := by omega
        obtain ⟨g9, off9, si, ci, e9, _, q0, hLr, hcr⟩ := (HMM.out.mst.ext (E2.trans hE)).at hlt
        cases e9
        rw [Nat.zero_add] at q0
        have HRV := hide (show o ++ [(ll.getD k []).reverse] = (ll.take (k + 1)).map List.reverse by rw [HO.out]; exact rev_rows hlt)
        have hr6 := HRL.out k hlt
        have HBK := hide (fun w (h : Lst w si (ll.getD k [])) => lawBackwards si ci _ (ll.getD k []) w h rfl hr6)
        have HLR := hide hLr
        obtain ⟨V, hV⟩ : ∃ V, V = (ll.getD k []).reverse := ⟨_, rfl⟩; rw [← hV] at HRV HBK
        obtain ⟨r, hr⟩ : ∃ r, r = ll.getD k [] := ⟨_, rfl⟩; rw [← hr] at q0 HBK HLR
        clear hV hr hLr hcr hr6 HO
        go_wp2_with fail; refine (HBK.out _ HLR.out).mono ?_; rintro e w3 ⟨s3, c3, rfl, R3, hb3⟩
        have HX3 := hide (Ext.of hb3)
        clear hb3
        have hgt0 := l1
        go_wp2_with (first | (at_builtin; refine append_row (s := .tmp 33) (x := .tmp 39) rfl rfl rfl rfl M5 HX3.out R3 (by omega) hE.size ?_; intro g4 cap4 w4 M4 hb4; have hE4 : Ext w2 w4 := (hE.trans HX3.out).below hb4 (Nat.le_refl _); clear hb4))
        have E4w := E2.trans hE4
        have HK := hide (fun w5 (e : Ext w4 w5) => (⟨trivial, trivial⟩ : True ∧ True))
        have hk1 : k ≤ cb := by omega
        by_cases h1 : 1 < ll.length
        · have h1i : (1 : Int) < (ll.length : Int) := by omega
          have HTL := hide (show (ll.take k).length = k by rw [List.length_take]; omega)
          have HT1 := hide (show (hs.take k).length = (ll.take k).length by rw [List.length_take, List.length_take, HMM.out.len])
          have HTL2 := hide (show ([] ++ ll.take k).length = 0 + k by rw [List.nil_append, HTL.out]; omega)
          have HD1 := hide (show (hs.drop (k + 1)).length = (ll.drop (k + 1)).length by rw [List.length_drop, List.length_drop, HMM.out.len])
          have HVB := hide (show vr ([] ++ ll.take k ++ ll.drop (k + 1)) = true by rw [List.nil_append]; exact vr_but HVR.out h1 hlt)
          have HBR := hide (show ∀ i, i < ([] ++ ll.take k ++ ll.drop (k + 1)).length → (([] ++ ll.take k ++ ll.drop (k + 1)).getD i []).length ≤ 2000000 from fun i hi => by
            rw [List.nil_append] at hi ⊢
            rw [List.length_append, List.length_take, List.length_drop] at hi
            rw [getD_butG [] ll hlt]; exact HRL.out _ (by split <;> omega))
          have hw1 : IntKind.i64.wrap ((k : Int) + 1) = (k : Int) + 1 := IntWalk.i64_in _ (by omega)
          have hkc : (k : Int) ≤ (cb : Int) := by omega
          have hkl1 : (k : Int) + 1 ≤ (ll.length : Int) := by omega
          have hk2 : (0 : Int) ≤ (k : Int) + 1 := by omega
          have hk3 : ((k : Int) + 1).toNat = k + 1 := by omega
          have hk4 : k + 1 ≤ ll.length := by omega
          have hk5 : k ≤ ll.length := by omega
          by_cases hkcap : k + 1 = cb
          · have HDL := hide (show (ll.drop (k + 1)).length = 0 by rw [List.length_drop]; omega)
            try go_wp2
            refine wp_region_held_drew (S := (fun _ => True ∧ True)) (by kernel_rfl) (by first | exact HK.out _ ((Ext.refl w4).drew)) (fun hHeld => ?_)
            refine wpAnyH_take (i := 0) (oi := _) (v := ?_) rfl (by kernel_rfl) (by kernel_rfl) (by kernel_rfl) (fun _ _ _ h => h) (Or.inl ⟨by rfl, ?_⟩) (by assumption) ?_
            rotate_left
            · (intro w hSw; (try dsimp only at hSw); (try obtain ⟨hS0, hS1⟩ := hSw); go_simp; (try with_reducible rfl))
            (try simp only [List.getElem_toArray, List.getElem_cons_zero, Act.put, List.setIfInBounds_toArray, List.set_cons_zero, List.set_cons_succ])
            refine wpAnyH_take (i := 1) (oi := _) (v := ?_) rfl (by kernel_rfl) (by kernel_rfl) (by kernel_rfl) (fun _ _ _ h => h) (Or.inl ⟨by rfl, ?_⟩) (by assumption) ?_
            rotate_left
            · (intro w hSw; (try dsimp only at hSw); (try obtain ⟨hS0, hS1⟩ := hSw); go_simp; (try with_reducible rfl))
            (try simp only [List.getElem_toArray, List.getElem_cons_succ, List.getElem_cons_zero, Act.put, List.setIfInBounds_toArray, List.set_cons_zero, List.set_cons_succ])
            refine wpAnyH_take (i := 2) (oi := _) (v := ?_) rfl (by kernel_rfl) (by kernel_rfl) (by kernel_rfl) (fun _ _ _ h => h) (Or.inl ⟨by rfl, ?_⟩) (by assumption) ?_
            rotate_left
            · (intro w hSw; (try dsimp only at hSw); (try obtain ⟨hS0, hS1⟩ := hSw); go_simp; (try with_reducible rfl))
            (try simp only [List.getElem_toArray, List.getElem_cons_succ, List.getElem_cons_zero, Act.put, List.setIfInBounds_toArray, List.set_cons_zero, List.set_cons_succ])
            refine wpAnyH_take (i := 3) (oi := _) (v := ?_) rfl (by kernel_rfl) (by kernel_rfl) (by kernel_rfl) (fun _ _ _ h => h) (Or.inl ⟨by rfl, ?_⟩) (by assumption) ?_
            rotate_left
            · (intro w hSw; (try dsimp only at hSw); (try obtain ⟨hS0, hS1⟩ := hSw); go_simp; (try with_reducible rfl))
            (try simp only [List.getElem_toArray, List.getElem_cons_succ, List.getElem_cons_zero, Act.put, List.setIfInBounds_toArray, List.set_cons_zero, List.set_cons_succ])
            refine wpAnyH_take (i := 5) (oi := _) (v := ?_) rfl (by kernel_rfl) (by kernel_rfl) (by kernel_rfl) (fun _ _ _ h => h) (Or.inl ⟨by rfl, ?_⟩) (by assumption) ?_
            rotate_left
            · (intro w hSw; (try dsimp only at hSw); (try obtain ⟨hS0, hS1⟩ := hSw); go_simp; (try with_reducible rfl))
            (try simp only [List.getElem_toArray, List.getElem_cons_succ, List.getElem_cons_zero, Act.put, List.setIfInBounds_toArray, List.set_cons_zero, List.set_cons_succ])
            refine wpAnyH_take (i := 6) (oi := _) (v := ?_) rfl (by kernel_rfl) (by kernel_rfl) (by kernel_rfl) (fun _ _ _ h => h) (Or.inl ⟨by rfl, ?_⟩) (by assumption) ?_
            rotate_left
            · (intro w hSw; (try dsimp only at hSw); (try obtain ⟨hS0, hS1⟩ := hSw); go_simp; (try with_reducible rfl))
            (try simp only [List.getElem_toArray, List.getElem_cons_succ, List.getElem_cons_zero, Act.put, List.setIfInBounds_toArray, List.set_cons_zero, List.set_cons_succ])
            refine wpAnyH_take (i := 7) (oi := _) (v := ?_) rfl (by kernel_rfl) (by kernel_rfl) (by kernel_rfl) (fun _ _ _ h => h) (Or.inl ⟨by rfl, ?_⟩) (by assumption) ?_
            rotate_left
            · (intro w hSw; (try dsimp only at hSw); (try obtain ⟨hS0, hS1⟩ := hSw); go_simp; (try with_reducible rfl))
            (try simp only [List.getElem_toArray, List.getElem_cons_succ, List.getElem_cons_zero, Act.put, List.setIfInBounds_toArray, List.set_cons_zero, List.set_cons_succ])
            refine wpAnyH_take (i := 9) (oi := _) (v := ?_) rfl (by kernel_rfl) (by kernel_rfl) (by kernel_rfl) (fun _ _ _ h => h) (Or.inl ⟨by rfl, ?_⟩) (by assumption) ?_
            rotate_left
            · (intro w hSw; (try dsimp only at hSw); (try obtain ⟨hS0, hS1⟩ := hSw); go_simp; (try with_reducible rfl))
            (try simp only [List.getElem_toArray, List.getElem_cons_succ, List.getElem_cons_zero, Act.put, List.setIfInBounds_toArray, List.set_cons_zero, List.set_cons_succ])
            refine wpAnyH_take (i := 10) (oi := _) (v := ?_) rfl (by kernel_rfl) (by kernel_rfl) (by kernel_rfl) (fun _ _ _ h => h) (Or.inl ⟨by rfl, ?_⟩) (by assumption) ?_
            rotate_left
            · (intro w hSw; (try dsimp only at hSw); (try obtain ⟨hS0, hS1⟩ := hSw); go_simp; (try with_reducible rfl))
            (try simp only [List.getElem_toArray, List.getElem_cons_succ, List.getElem_cons_zero, Act.put, List.setIfInBounds_toArray, List.set_cons_zero, List.set_cons_succ])
            refine wpAnyH_take (i := 11) (oi := _) (v := ?_) rfl (by kernel_rfl) (by kernel_rfl) (by kernel_rfl) (fun _ _ _ h => h) (Or.inl ⟨by rfl, ?_⟩) (by assumption) ?_
            rotate_left
            · (intro w hSw; (try dsimp only at hSw); (try obtain ⟨hS0, hS1⟩ := hSw); go_simp; (try with_reducible rfl))
            (try simp only [List.getElem_toArray, List.getElem_cons_succ, List.getElem_cons_zero, Act.put, List.setIfInBounds_toArray, List.set_cons_zero, List.set_cons_succ])
            refine wpAnyH_take (i := 12) (oi := _) (v := ?_) rfl (by kernel_rfl) (by kernel_rfl) (by kernel_rfl) (fun _ _ _ h => h) (Or.inl ⟨by rfl, ?_⟩) (by assumption) ?_
            rotate_left
            · (intro w hSw; (try dsimp only at hSw); (try obtain ⟨hS0, hS1⟩ := hSw); go_simp; (try with_reducible rfl))
            (try simp only [List.getElem_toArray, List.getElem_cons_succ, List.getElem_cons_zero, Act.put, List.setIfInBounds_toArray, List.set_cons_zero, List.set_cons_succ])
            refine wpAnyH_ready (rs := [4]) (by kernel_rfl) (by simp) ?_
            refine AllReadyH.cons (o := _) rfl (fun K hK => ?_) AllReadyH.nil
            go_simp
            refine hK.out _ _ (HK.out _ (((Ext.refl w4).drew).alloc (.cells #[] 22))) (fun hHeld => ?_); clear hK K
            (try simp only [List.getElem_toArray, List.getElem_cons_succ, List.getElem_cons_zero, Act.put, List.setIfInBounds_toArray, List.set_cons_zero, List.set_cons_succ])
            have R0 := HRow.made w4.heap.size w4.heap.size w4.drew rfl (Nat.le_refl _)
            refine wpAnyH_ready (rs := [8]) (by kernel_rfl) (by simp) ?_
            refine AllReadyH.cons (o := _) rfl (fun K hK => ?_) AllReadyH.nil
            refine step_append_heads (n := 0) (m := k) (l1 := []) (l := ll.take k) (hs2 := hs.take k) (s := .tmp 45) (x := .tmp 48) (by rfl) (by rfl) (by rfl) (by rfl) rfl HTL.out R0 HT1.out (by omega) (by omega) (by simp) (hst_take hgm HCE.out (E4w.trans (((Ext.refl w4).drew).alloc (.cells #[] 22))) k (by omega)) ?_; intro sg c8 w8 R8 hb8
            refine hK.out _ _ (HK.out _ (((((Ext.refl w4).drew).alloc (.cells #[] 22))).below hb8 (Nat.le_refl _))) (fun hHeld => ?_); clear hK K
            (try simp only [List.getElem_toArray, List.getElem_cons_succ, List.getElem_cons_zero, Act.put, List.setIfInBounds_toArray, List.set_cons_zero, List.set_cons_succ])
            refine wpAnyH_ready (rs := [13]) (by kernel_rfl) (by simp) ?_
            refine AllReadyH.cons (o := _) rfl (fun K hK => ?_) AllReadyH.nil
            (first | refine step_append_heads (n := 0 + k) (m := 0) (l1 := [] ++ ll.take k) (l := ll.drop (k + 1)) (hs2 := hs.drop (k + 1)) (s := .tmp 49) (x := .tmp 53) (by rfl) (by rfl) (by rfl) (by rfl) HTL2.out HDL.out R8 HD1.out (by omega) (by omega) ((((((Ext.refl w4).drew).alloc (.cells #[] 22))).below hb8 (Nat.le_refl _))).size (.inl (List.length_eq_zero_iff.1 HDL.out)) ?_); intro sh c9 w9 R9 hb9
            refine hK.out _ _ (HK.out _ (((((((Ext.refl w4).drew).alloc (.cells #[] 22))).below hb8 (Nat.le_refl _))).below hb9 (Nat.le_refl _))) (fun hHeld => ?_); clear hK K
            (try simp only [List.getElem_toArray, List.getElem_cons_succ, List.getElem_cons_zero, Act.put, List.setIfInBounds_toArray, List.set_cons_zero, List.set_cons_succ])
            have HB9 := hide (R9.mst (but_rows HMM.out (E4w.trans (((((((Ext.refl w4).drew).alloc (.cells #[] 22))).below hb8 (Nat.le_refl _))).below hb9 (Nat.le_refl _))) hlt))
            have HLB := hide (show ([] ++ ll.take k ++ ll.drop (k + 1)).length = k + (0) by rw [List.length_append, HTL2.out, HDL.out]; omega)
            refine wpAnyH_ready (rs := [14]) (by kernel_rfl) (by simp) ?_
            refine AllReadyH.cons (o := _) rfl (fun K hK => ?_) AllReadyH.nil
            go_simp
            refine (implVRat sh c9 (k + (0)) ([] ++ ll.take k ++ ll.drop (k + 1)) _ HB9.out HLB.out (by omega) HBR.out HVB.out).mono ?_; rintro e w10 ⟨rfl, rfl⟩
            refine hK.out _ _ (HK.out _ (((((((Ext.refl w4).drew).alloc (.cells #[] 22))).below hb8 (Nat.le_refl _))).below hb9 (Nat.le_refl _))) (fun hHeld => ?_); clear hK K
            (try simp only [List.getElem_toArray, List.getElem_cons_succ, List.getElem_cons_zero, Act.put, List.setIfInBounds_toArray, List.set_cons_zero, List.set_cons_succ])
            refine wpAnyH_take (i := 15) (oi := _) (v := ?_) rfl (by kernel_rfl) (by kernel_rfl) (by kernel_rfl) (fun _ _ _ h => h) (Or.inl ⟨by rfl, ?_⟩) (by assumption) ?_
            rotate_left
            · (intro w hSw; (try dsimp only at hSw); (try obtain ⟨hS0, hS1⟩ := hSw); go_simp; (try with_reducible rfl))
            (try simp only [List.getElem_toArray, List.getElem_cons_succ, List.getElem_cons_zero, Act.put, List.setIfInBounds_toArray, List.set_cons_zero, List.set_cons_succ])
            refine wpAnyH_take (i := 16) (oi := _) (v := ?_) rfl (by kernel_rfl) (by kernel_rfl) (by kernel_rfl) (fun _ _ _ h => h) (Or.inl ⟨by rfl, ?_⟩) (by assumption) ?_
            rotate_left
            · (intro w hSw; (try dsimp only at hSw); (try obtain ⟨hS0, hS1⟩ := hSw); go_simp; (try with_reducible rfl))
            (try simp only [List.getElem_toArray, List.getElem_cons_succ, List.getElem_cons_zero, Act.put, List.setIfInBounds_toArray, List.set_cons_zero, List.set_cons_succ])
            refine wpAnyH_done (by kernel_rfl) ?_ _
            have hE5 := (hE4).trans (((((((Ext.refl w4).drew).alloc (.cells #[] 22))).below hb8 (Nat.le_refl _))).below hb9 (Nat.le_refl _))
            clear HK
            go_wp2
            go_roundw
            case rel => exact ⟨k + 1, _, _, _, _, by omega, by go_num, by rw [len_snocL o], by rw [← len_snocL o]; omega, HRV, M4.ext (((((((Ext.refl w4).drew).alloc (.cells #[] 22))).below hb8 (Nat.le_refl _))).below hb9 (Nat.le_refl _)), hE5⟩
            case measure => (first | (simp [intOf]; done) | (simp [intOf]; omega))
          · have hkcap2 : ¬ cb = k + 1 := fun e => hkcap e.symm
            have HDL := hide (show (ll.drop (k + 1)).length = ll.length - (k + 1) by rw [List.length_drop])
            try go_wp2
            refine wp_region_held_drew (S := (fun _ => True ∧ True)) (by kernel_rfl) (by first | exact HK.out _ ((Ext.refl w4).drew)) (fun hHeld => ?_)
            refine wpAnyH_take (i := 0) (oi := _) (v := ?_) rfl (by kernel_rfl) (by kernel_rfl) (by kernel_rfl) (fun _ _ _ h => h) (Or.inl ⟨by rfl, ?_⟩) (by assumption) ?_
            rotate_left
            · (intro w hSw; (try dsimp only at hSw); (try obtain ⟨hS0, hS1⟩ := hSw); go_simp; (try with_reducible rfl))
            (try simp only [List.getElem_toArray, List.getElem_cons_zero, Act.put, List.setIfInBounds_toArray, List.set_cons_zero, List.set_cons_succ])
            refine wpAnyH_take (i := 1) (oi := _) (v := ?_) rfl (by kernel_rfl) (by kernel_rfl) (by kernel_rfl) (fun _ _ _ h => h) (Or.inl ⟨by rfl, ?_⟩) (by assumption) ?_
            rotate_left
            · (intro w hSw; (try dsimp only at hSw); (try obtain ⟨hS0, hS1⟩ := hSw); go_simp; (try with_reducible rfl))
            (try simp only [List.getElem_toArray, List.getElem_cons_succ, List.getElem_cons_zero, Act.put, List.setIfInBounds_toArray, List.set_cons_zero, List.set_cons_succ])
            refine wpAnyH_take (i := 2) (oi := _) (v := ?_) rfl (by kernel_rfl) (by kernel_rfl) (by kernel_rfl) (fun _ _ _ h => h) (Or.inl ⟨by rfl, ?_⟩) (by assumption) ?_
            rotate_left
            · (intro w hSw; (try dsimp only at hSw); (try obtain ⟨hS0, hS1⟩ := hSw); go_simp; (try with_reducible rfl))
            (try simp only [List.getElem_toArray, List.getElem_cons_succ, List.getElem_cons_zero, Act.put, List.setIfInBounds_toArray, List.set_cons_zero, List.set_cons_succ])
            refine wpAnyH_take (i := 3) (oi := _) (v := ?_) rfl (by kernel_rfl) (by kernel_rfl) (by kernel_rfl) (fun _ _ _ h => h) (Or.inl ⟨by rfl, ?_⟩) (by assumption) ?_
            rotate_left
            · (intro w hSw; (try dsimp only at hSw); (try obtain ⟨hS0, hS1⟩ := hSw); go_simp; (try with_reducible rfl))
            (try simp only [List.getElem_toArray, List.getElem_cons_succ, List.getElem_cons_zero, Act.put, List.setIfInBounds_toArray, List.set_cons_zero, List.set_cons_succ])
            refine wpAnyH_take (i := 5) (oi := _) (v := ?_) rfl (by kernel_rfl) (by kernel_rfl) (by kernel_rfl) (fun _ _ _ h => h) (Or.inl ⟨by rfl, ?_⟩) (by assumption) ?_
            rotate_left
            · (intro w hSw; (try dsimp only at hSw); (try obtain ⟨hS0, hS1⟩ := hSw); go_simp; (try with_reducible rfl))
            (try simp only [List.getElem_toArray, List.getElem_cons_succ, List.getElem_cons_zero, Act.put, List.setIfInBounds_toArray, List.set_cons_zero, List.set_cons_succ])
            refine wpAnyH_take (i := 6) (oi := _) (v := ?_) rfl (by kernel_rfl) (by kernel_rfl) (by kernel_rfl) (fun _ _ _ h => h) (Or.inl ⟨by rfl, ?_⟩) (by assumption) ?_
            rotate_left
            · (intro w hSw; (try dsimp only at hSw); (try obtain ⟨hS0, hS1⟩ := hSw); go_simp; (try with_reducible rfl))
            (try simp only [List.getElem_toArray, List.getElem_cons_succ, List.getElem_cons_zero, Act.put, List.setIfInBounds_toArray, List.set_cons_zero, List.set_cons_succ])
            refine wpAnyH_take (i := 7) (oi := _) (v := ?_) rfl (by kernel_rfl) (by kernel_rfl) (by kernel_rfl) (fun _ _ _ h => h) (Or.inl ⟨by rfl, ?_⟩) (by assumption) ?_
            rotate_left
            · (intro w hSw; (try dsimp only at hSw); (try obtain ⟨hS0, hS1⟩ := hSw); go_simp; (try with_reducible rfl))
            (try simp only [List.getElem_toArray, List.getElem_cons_succ, List.getElem_cons_zero, Act.put, List.setIfInBounds_toArray, List.set_cons_zero, List.set_cons_succ])
            refine wpAnyH_take (i := 9) (oi := _) (v := ?_) rfl (by kernel_rfl) (by kernel_rfl) (by kernel_rfl) (fun _ _ _ h => h) (Or.inl ⟨by rfl, ?_⟩) (by assumption) ?_
            rotate_left
            · (intro w hSw; (try dsimp only at hSw); (try obtain ⟨hS0, hS1⟩ := hSw); go_simp; (try with_reducible rfl))
            (try simp only [List.getElem_toArray, List.getElem_cons_succ, List.getElem_cons_zero, Act.put, List.setIfInBounds_toArray, List.set_cons_zero, List.set_cons_succ])
            refine wpAnyH_take (i := 10) (oi := _) (v := ?_) rfl (by kernel_rfl) (by kernel_rfl) (by kernel_rfl) (fun _ _ _ h => h) (Or.inl ⟨by rfl, ?_⟩) (by assumption) ?_
            rotate_left
            · (intro w hSw; (try dsimp only at hSw); (try obtain ⟨hS0, hS1⟩ := hSw); go_simp; (try with_reducible rfl))
            (try simp only [List.getElem_toArray, List.getElem_cons_succ, List.getElem_cons_zero, Act.put, List.setIfInBounds_toArray, List.set_cons_zero, List.set_cons_succ])
            refine wpAnyH_take (i := 11) (oi := _) (v := ?_) rfl (by kernel_rfl) (by kernel_rfl) (by kernel_rfl) (fun _ _ _ h => h) (Or.inl ⟨by rfl, ?_⟩) (by assumption) ?_
            rotate_left
            · (intro w hSw; (try dsimp only at hSw); (try obtain ⟨hS0, hS1⟩ := hSw); go_simp; (try with_reducible rfl))
            (try simp only [List.getElem_toArray, List.getElem_cons_succ, List.getElem_cons_zero, Act.put, List.setIfInBounds_toArray, List.set_cons_zero, List.set_cons_succ])
            refine wpAnyH_take (i := 12) (oi := _) (v := ?_) rfl (by kernel_rfl) (by kernel_rfl) (by kernel_rfl) (fun _ _ _ h => h) (Or.inl ⟨by rfl, ?_⟩) (by assumption) ?_
            rotate_left
            · (intro w hSw; (try dsimp only at hSw); (try obtain ⟨hS0, hS1⟩ := hSw); go_simp; (try with_reducible rfl))
            (try simp only [List.getElem_toArray, List.getElem_cons_succ, List.getElem_cons_zero, Act.put, List.setIfInBounds_toArray, List.set_cons_zero, List.set_cons_succ])
            refine wpAnyH_ready (rs := [4]) (by kernel_rfl) (by simp) ?_
            refine AllReadyH.cons (o := _) rfl (fun K hK => ?_) AllReadyH.nil
            go_simp
            refine hK.out _ _ (HK.out _ (((Ext.refl w4).drew).alloc (.cells #[] 22))) (fun hHeld => ?_); clear hK K
            (try simp only [List.getElem_toArray, List.getElem_cons_succ, List.getElem_cons_zero, Act.put, List.setIfInBounds_toArray, List.set_cons_zero, List.set_cons_succ])
            have R0 := HRow.made w4.heap.size w4.heap.size w4.drew rfl (Nat.le_refl _)
            refine wpAnyH_ready (rs := [8]) (by kernel_rfl) (by simp) ?_
            refine AllReadyH.cons (o := _) rfl (fun K hK => ?_) AllReadyH.nil
            refine step_append_heads (n := 0) (m := k) (l1 := []) (l := ll.take k) (hs2 := hs.take k) (s := .tmp 45) (x := .tmp 48) (by rfl) (by rfl) (by rfl) (by rfl) rfl HTL.out R0 HT1.out (by omega) (by omega) (by simp) (hst_take hgm HCE.out (E4w.trans (((Ext.refl w4).drew).alloc (.cells #[] 22))) k (by omega)) ?_; intro sg c8 w8 R8 hb8
            refine hK.out _ _ (HK.out _ (((((Ext.refl w4).drew).alloc (.cells #[] 22))).below hb8 (Nat.le_refl _))) (fun hHeld => ?_); clear hK K
            (try simp only [List.getElem_toArray, List.getElem_cons_succ, List.getElem_cons_zero, Act.put, List.setIfInBounds_toArray, List.set_cons_zero, List.set_cons_succ])
            refine wpAnyH_ready (rs := [13]) (by kernel_rfl) (by simp) ?_
            refine AllReadyH.cons (o := _) rfl (fun K hK => ?_) AllReadyH.nil
            (first | refine step_append_heads (n := 0 + k) (m := ll.length - (k + 1)) (l1 := [] ++ ll.take k) (l := ll.drop (k + 1)) (hs2 := hs.drop (k + 1)) (s := .tmp 49) (x := .tmp 53) (by rfl) (by rfl) (by rfl) (by rfl) HTL2.out HDL.out R8 HD1.out (by omega) (by omega) ((((((Ext.refl w4).drew).alloc (.cells #[] 22))).below hb8 (Nat.le_refl _))).size (hst_drop hgm HCE.out (E4w.trans (((((Ext.refl w4).drew).alloc (.cells #[] 22))).below hb8 (Nat.le_refl _))) (k + 1)) ?_); intro sh c9 w9 R9 hb9
            refine hK.out _ _ (HK.out _ (((((((Ext.refl w4).drew).alloc (.cells #[] 22))).below hb8 (Nat.le_refl _))).below hb9 (Nat.le_refl _))) (fun hHeld => ?_); clear hK K
            (try simp only [List.getElem_toArray, List.getElem_cons_succ, List.getElem_cons_zero, Act.put, List.setIfInBounds_toArray, List.set_cons_zero, List.set_cons_succ])
            have HB9 := hide (R9.mst (but_rows HMM.out (E4w.trans (((((((Ext.refl w4).drew).alloc (.cells #[] 22))).below hb8 (Nat.le_refl _))).below hb9 (Nat.le_refl _))) hlt))
            have HLB := hide (show ([] ++ ll.take k ++ ll.drop (k + 1)).length = k + (ll.length - (k + 1)) by rw [List.length_append, HTL2.out, HDL.out]; omega)
            refine wpAnyH_ready (rs := [14]) (by kernel_rfl) (by simp) ?_
            refine AllReadyH.cons (o := _) rfl (fun K hK => ?_) AllReadyH.nil
            go_simp
            refine (implVRat sh c9 (k + (ll.length - (k + 1))) ([] ++ ll.take k ++ ll.drop (k + 1)) _ HB9.out HLB.out (by omega) HBR.out HVB.out).mono ?_; rintro e w10 ⟨rfl, rfl⟩
            refine hK.out _ _ (HK.out _ (((((((Ext.refl w4).drew).alloc (.cells #[] 22))).below hb8 (Nat.le_refl _))).below hb9 (Nat.le_refl _))) (fun hHeld => ?_); clear hK K
            (try simp only [List.getElem_toArray, List.getElem_cons_succ, List.getElem_cons_zero, Act.put, List.setIfInBounds_toArray, List.set_cons_zero, List.set_cons_succ])
            refine wpAnyH_take (i := 15) (oi := _) (v := ?_) rfl (by kernel_rfl) (by kernel_rfl) (by kernel_rfl) (fun _ _ _ h => h) (Or.inl ⟨by rfl, ?_⟩) (by assumption) ?_
            rotate_left
            · (intro w hSw; (try dsimp only at hSw); (try obtain ⟨hS0, hS1⟩ := hSw); go_simp; (try with_reducible rfl))
            (try simp only [List.getElem_toArray, List.getElem_cons_succ, List.getElem_cons_zero, Act.put, List.setIfInBounds_toArray, List.set_cons_zero, List.set_cons_succ])
            refine wpAnyH_take (i := 16) (oi := _) (v := ?_) rfl (by kernel_rfl) (by kernel_rfl) (by kernel_rfl) (fun _ _ _ h => h) (Or.inl ⟨by rfl, ?_⟩) (by assumption) ?_
            rotate_left
            · (intro w hSw; (try dsimp only at hSw); (try obtain ⟨hS0, hS1⟩ := hSw); go_simp; (try with_reducible rfl))
            (try simp only [List.getElem_toArray, List.getElem_cons_succ, List.getElem_cons_zero, Act.put, List.setIfInBounds_toArray, List.set_cons_zero, List.set_cons_succ])
            refine wpAnyH_done (by kernel_rfl) ?_ _
            have hE5 := (hE4).trans (((((((Ext.refl w4).drew).alloc (.cells #[] 22))).below hb8 (Nat.le_refl _))).below hb9 (Nat.le_refl _))
            clear HK
            go_wp2
            go_roundw
            case rel => exact ⟨k + 1, _, _, _, _, by omega, by go_num, by rw [len_snocL o], by rw [← len_snocL o]; omega, HRV, M4.ext (((((((Ext.refl w4).drew).alloc (.cells #[] 22))).below hb8 (Nat.le_refl _))).below hb9 (Nat.le_refl _)), hE5⟩
            case measure => (first | (simp [intOf]; done) | (simp [intOf]; omega))
        · have h1i : decide ((1 : Int) < (ll.length : Int)) = false := decide_eq_false (by omega)
          try go_wp2
          refine wp_region_held_drew (S := (fun _ => True ∧ True)) (by kernel_rfl) (by first | exact HK.out _ ((Ext.refl w4).drew)) (fun hHeld => ?_)
          refine wpAnyH_take (i := 0) (oi := _) (v := ?_) rfl (by kernel_rfl) (by kernel_rfl) (by kernel_rfl) (fun _ _ _ h => h) (Or.inl ⟨by rfl, ?_⟩) (by assumption) ?_
          rotate_left
          · (intro w hSw; (try dsimp only at hSw); (try obtain ⟨hS0, hS1⟩ := hSw); go_simp; (try with_reducible rfl))
          (try simp only [List.getElem_toArray, List.getElem_cons_zero, Act.put, List.setIfInBounds_toArray, List.set_cons_zero, List.set_cons_succ])
          refine wpAnyH_take (i := 1) (oi := _) (v := ?_) rfl (by kernel_rfl) (by kernel_rfl) (by kernel_rfl) (fun _ _ _ h => h) (Or.inl ⟨by rfl, ?_⟩) (by assumption) ?_
          rotate_left
          · (intro w hSw; (try dsimp only at hSw); (try obtain ⟨hS0, hS1⟩ := hSw); go_simp; (try with_reducible rfl))
          (try simp only [List.getElem_toArray, List.getElem_cons_succ, List.getElem_cons_zero, Act.put, List.setIfInBounds_toArray, List.set_cons_zero, List.set_cons_succ])
          refine wpAnyH_take (i := 2) (oi := _) (v := ?_) rfl (by kernel_rfl) (by kernel_rfl) (by kernel_rfl) (fun _ _ _ h => h) (Or.inl ⟨by rfl, ?_⟩) (by assumption) ?_
          rotate_left
          · (intro w hSw; (try dsimp only at hSw); (try obtain ⟨hS0, hS1⟩ := hSw); go_simp; (try with_reducible rfl))
          (try simp only [List.getElem_toArray, List.getElem_cons_succ, List.getElem_cons_zero, Act.put, List.setIfInBounds_toArray, List.set_cons_zero, List.set_cons_succ])
          refine wpAnyH_take (i := 3) (oi := _) (v := ?_) rfl (by kernel_rfl) (by kernel_rfl) (by kernel_rfl) (fun _ _ _ h => h) (Or.inl ⟨by rfl, ?_⟩) (by assumption) ?_
          rotate_left
          · (intro w hSw; (try dsimp only at hSw); (try obtain ⟨hS0, hS1⟩ := hSw); go_simp; (try with_reducible rfl))
          (try simp only [List.getElem_toArray, List.getElem_cons_succ, List.getElem_cons_zero, Act.put, List.setIfInBounds_toArray, List.set_cons_zero, List.set_cons_succ])
          refine wpAnyH_take (i := 4) (oi := _) (v := undef) rfl (by kernel_rfl) (by kernel_rfl) (by kernel_rfl) (fun _ _ _ h => h) (Or.inr ⟨by rfl, rfl⟩) (by assumption) ?_
          (try simp only [List.getElem_toArray, List.getElem_cons_succ, List.getElem_cons_zero, Act.put, List.setIfInBounds_toArray, List.set_cons_zero, List.set_cons_succ])
          refine wpAnyH_take (i := 5) (oi := _) (v := undef) rfl (by kernel_rfl) (by kernel_rfl) (by kernel_rfl) (fun _ _ _ h => h) (Or.inr ⟨by rfl, rfl⟩) (by assumption) ?_
          (try simp only [List.getElem_toArray, List.getElem_cons_succ, List.getElem_cons_zero, Act.put, List.setIfInBounds_toArray, List.set_cons_zero, List.set_cons_succ])
          refine wpAnyH_take (i := 6) (oi := _) (v := undef) rfl (by kernel_rfl) (by kernel_rfl) (by kernel_rfl) (fun _ _ _ h => h) (Or.inr ⟨by rfl, rfl⟩) (by assumption) ?_
          (try simp only [List.getElem_toArray, List.getElem_cons_succ, List.getElem_cons_zero, Act.put, List.setIfInBounds_toArray, List.set_cons_zero, List.set_cons_succ])
          refine wpAnyH_take (i := 7) (oi := _) (v := undef) rfl (by kernel_rfl) (by kernel_rfl) (by kernel_rfl) (fun _ _ _ h => h) (Or.inr ⟨by rfl, rfl⟩) (by assumption) ?_
          (try simp only [List.getElem_toArray, List.getElem_cons_succ, List.getElem_cons_zero, Act.put, List.setIfInBounds_toArray, List.set_cons_zero, List.set_cons_succ])
          refine wpAnyH_take (i := 8) (oi := _) (v := undef) rfl (by kernel_rfl) (by kernel_rfl) (by kernel_rfl) (fun _ _ _ h => h) (Or.inr ⟨by rfl, rfl⟩) (by assumption) ?_
          (try simp only [List.getElem_toArray, List.getElem_cons_succ, List.getElem_cons_zero, Act.put, List.setIfInBounds_toArray, List.set_cons_zero, List.set_cons_succ])
          refine wpAnyH_take (i := 9) (oi := _) (v := undef) rfl (by kernel_rfl) (by kernel_rfl) (by kernel_rfl) (fun _ _ _ h => h) (Or.inr ⟨by rfl, rfl⟩) (by assumption) ?_
          (try simp only [List.getElem_toArray, List.getElem_cons_succ, List.getElem_cons_zero, Act.put, List.setIfInBounds_toArray, List.set_cons_zero, List.set_cons_succ])
          refine wpAnyH_take (i := 10) (oi := _) (v := undef) rfl (by kernel_rfl) (by kernel_rfl) (by kernel_rfl) (fun _ _ _ h => h) (Or.inr ⟨by rfl, rfl⟩) (by assumption) ?_
          (try simp only [List.getElem_toArray, List.getElem_cons_succ, List.getElem_cons_zero, Act.put, List.setIfInBounds_toArray, List.set_cons_zero, List.set_cons_succ])
          refine wpAnyH_take (i := 11) (oi := _) (v := undef) rfl (by kernel_rfl) (by kernel_rfl) (by kernel_rfl) (fun _ _ _ h => h) (Or.inr ⟨by rfl, rfl⟩) (by assumption) ?_
          (try simp only [List.getElem_toArray, List.getElem_cons_succ, List.getElem_cons_zero, Act.put, List.setIfInBounds_toArray, List.set_cons_zero, List.set_cons_succ])
          refine wpAnyH_take (i := 12) (oi := _) (v := undef) rfl (by kernel_rfl) (by kernel_rfl) (by kernel_rfl) (fun _ _ _ h => h) (Or.inr ⟨by rfl, rfl⟩) (by assumption) ?_
          (try simp only [List.getElem_toArray, List.getElem_cons_succ, List.getElem_cons_zero, Act.put, List.setIfInBounds_toArray, List.set_cons_zero, List.set_cons_succ])
          refine wpAnyH_take (i := 13) (oi := _) (v := undef) rfl (by kernel_rfl) (by kernel_rfl) (by kernel_rfl) (fun _ _ _ h => h) (Or.inr ⟨by rfl, rfl⟩) (by assumption) ?_
          (try simp only [List.getElem_toArray, List.getElem_cons_succ, List.getElem_cons_zero, Act.put, List.setIfInBounds_toArray, List.set_cons_zero, List.set_cons_succ])
          refine wpAnyH_take (i := 14) (oi := _) (v := undef) rfl (by kernel_rfl) (by kernel_rfl) (by kernel_rfl) (fun _ _ _ h => h) (Or.inr ⟨by rfl, rfl⟩) (by assumption) ?_
          (try simp only [List.getElem_toArray, List.getElem_cons_succ, List.getElem_cons_zero, Act.put, List.setIfInBounds_toArray, List.set_cons_zero, List.set_cons_succ])
          refine wpAnyH_take (i := 15) (oi := _) (v := undef) rfl (by kernel_rfl) (by kernel_rfl) (by kernel_rfl) (fun _ _ _ h => h) (Or.inr ⟨by rfl, rfl⟩) (by assumption) ?_
          (try simp only [List.getElem_toArray, List.getElem_cons_succ, List.getElem_cons_zero, Act.put, List.setIfInBounds_toArray, List.set_cons_zero, List.set_cons_succ])
          refine wpAnyH_take (i := 16) (oi := _) (v := ?_) rfl (by kernel_rfl) (by kernel_rfl) (by kernel_rfl) (fun _ _ _ h => h) (Or.inl ⟨by rfl, ?_⟩) (by assumption) ?_
          rotate_left
          · (intro w hSw; (try dsimp only at hSw); (try obtain ⟨hS0, hS1⟩ := hSw); go_simp; (try with_reducible rfl))
          (try simp only [List.getElem_toArray, List.getElem_cons_succ, List.getElem_cons_zero, Act.put, List.setIfInBounds_toArray, List.set_cons_zero, List.set_cons_succ])
          refine wpAnyH_done (by kernel_rfl) ?_ _
          have hE5 := (hE4).trans ((Ext.refl w4).drew)
          clear HK
          go_wp2
          go_roundw
          case rel => exact ⟨k + 1, _, _, _, _, by omega, by go_num, by rw [len_snocL o], by rw [← len_snocL o]; omega, HRV, M4.ext ((Ext.refl w4).drew), hE5⟩
          case measure => (first | (simp [intOf]; done) | (simp [intOf]; omega))
      · have hki : decide ((k : Int) < (ll.length : Int)) = false := decide_eq_false (by omega)
        have HOF := hide (show o = ll.map List.reverse by rw [HO.out, show k = ll.length by omega, List.take_length])
        have hoR : ∀ i, i < o.length → (o.getD i []).length ≤ 2000000 := fun i hi => by
          rw [HOF.out, getD_map_rev, List.length_reverse]; exact HRL.out i (by rw [HOF.out, List.length_map] at hi; exact hi)
        go_wp2_with fail; refine (implVRat s5 c5 o.length o _ M5.mst rfl (by omega) hoR (by rw [HOF.out]; exact vr_back HVR.out)).mono ?_; rintro e w' ⟨rfl, rfl⟩
        go_wp2
        go_ret
        exact ⟨rfl, E1.trans (E2.trans hE)⟩
  · have hvf : vr ll = false := by simpa using hv
    clear hv
    go_wp2_with fail; refine (Same.eqB (implVR sb cb ll _ HMM.out.mst (by omega) HRL.out) hvf).mono ?_; rintro e w' ⟨rfl, rfl⟩
    go_wp2_with fail; refine (specVRat sb cb ll _ HMM.out.mst (by omega) HRL.out hvf).mono ?_; rintro e w2 ⟨rfl, E2⟩
    go_wp2_with fail; refine (specVRat sb cb ll _ (HMM.out.mst.ext E2) (by omega) HRL.out hvf).mono ?_; rintro e w3 ⟨rfl, E3⟩
    go_wp2
    go_ret
    exact ⟨rfl, E1.trans (E2.trans E3)⟩
end Go.Proofs.Ytgmhodmgbhpdaac
