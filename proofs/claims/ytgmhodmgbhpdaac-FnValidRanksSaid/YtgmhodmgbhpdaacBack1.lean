/- Chapter 2: rows turned about, a row less: plain numbers, and the law's own helper. -/
import Derived.Test.YtgmhodmgbhpdaacLawR1
namespace Go.Proofs.Ytgmhodmgbhpdaac
open Go.ChangeShapes Go.WideShapes Go.ChangeAt Go.RowKit Go.Joins Go.Sort
set_option linter.unusedVariables false

theorem vmB_rev {r : List Int} {n : Int} (h : vmB r n = true) : vmB r.reverse n = true := by
  obtain ⟨h1, h2⟩ := vmB_iff.1 h
  exact vmB_iff.2 ⟨fun x hx => h1 x (List.mem_reverse.1 hx), List.pairwise_reverse.2 (h2.imp fun h e => h e.symm)⟩
theorem getD_map_rev (rk : List (List Int)) (i : Nat) : (rk.map List.reverse).getD i [] = (rk.getD i []).reverse := by
  rw [List.getD_eq_getElem?_getD, List.getD_eq_getElem?_getD, List.getElem?_map]
  cases rk[i]? <;> simp
theorem vr_back {rk : List (List Int)} (h : vr rk = true) : vr (rk.map List.reverse) = true := by
  obtain ⟨h1, h2, h3, h4, h5⟩ := vr_iff.1 h
  refine vr_iff.2 ⟨by rwa [List.length_map], by rwa [List.length_map], by rwa [getD_map_rev, List.length_reverse], by rwa [getD_map_rev, List.length_reverse], fun i hi => ?_⟩
  rw [List.length_map] at hi
  obtain ⟨e, hv⟩ := rowOk_iff.1 (h5 i hi)
  refine rowOk_iff.2 ?_
  rw [getD_map_rev, getD_map_rev, List.length_reverse, List.length_reverse]
  exact ⟨e, vmB_rev hv⟩
theorem getD_but (rk : List (List Int)) {i j : Nat} (hi : i < rk.length) : (rk.take i ++ rk.drop (i + 1)).getD j [] = rk.getD (if j < i then j else j + 1) [] := by
  rw [List.getD_eq_getElem?_getD, List.getD_eq_getElem?_getD]
  by_cases h : j < i
  · rw [if_pos h, List.getElem?_append_left (by rw [List.length_take]; omega), List.getElem?_take, if_pos h]
  · rw [if_neg h, List.getElem?_append_right (by rw [List.length_take]; omega), List.length_take, List.getElem?_drop]
    congr 2; omega
theorem vr_but {rk : List (List Int)} (h : vr rk = true) (h1 : 1 < rk.length) {i : Nat} (hi : i < rk.length) : vr (rk.take i ++ rk.drop (i + 1)) = true := by
  obtain ⟨_, h2, h3, h4, h5⟩ := vr_iff.1 h
  have hl : (rk.take i ++ rk.drop (i + 1)).length = rk.length - 1 := by rw [List.length_append, List.length_take, List.length_drop]; omega
  have hj : ∀ j, j < rk.length - 1 → (if j < i then j else j + 1) < rk.length := fun j hj => by split <;> omega
  have h0 := (rowOk_iff.1 (h5 _ (hj 0 (by omega)))).1
  refine vr_iff.2 ⟨by omega, by omega, by rw [getD_but rk hi]; omega, by rw [getD_but rk hi]; omega, fun j hjl => ?_⟩
  obtain ⟨e, hv⟩ := rowOk_iff.1 (h5 _ (hj j (by omega)))
  refine rowOk_iff.2 ?_
  rw [getD_but rk hi, getD_but rk hi, h0]
  exact ⟨e, hv⟩
theorem rev_step (l : List Int) {p : Nat} (h : p < l.length) : (l.drop (p + 1)).reverse ++ [l.getD p 0] = (l.drop p).reverse := by
  rw [List.drop_eq_getElem_cons h, List.reverse_cons, List.getD_eq_getElem?_getD, List.getElem?_eq_getElem h]; rfl

theorem len_snocB (o : List Int) (x : Int) : o.length + 1 = (o ++ [x]).length := by simp
set_option maxHeartbeats 1000000 in
theorem lawBackwards (sa : Option Addr) (cap n : Nat) (l : List Int) (w : World) (h : Lst w sa l) (hn : l.length = n) (hl : n ≤ 2000000) :
    Calls Try.prog 51 #[.slice sa n cap] w (RetList l.reverse w) := by
  subst hn
  have H := hide h; clear h
  go_enter Try.func51, Try.ntmps51
  go_wp2
  go_loopw [3, 4] (fun v i wr => ∃ (c : Nat) (z : Int) (s2 : Option Addr) (c2 : Nat) (o : List Int), c ≤ l.length ∧ z + 1 ≤ c ∧ (c : Int) ≤ z + 1 ∧ i = .int .i64 z ∧ v = .slice s2 o.length c2 ∧ Hid (o = (l.drop c).reverse) ∧ Row w.heap.size wr s2 c2 o ∧ Ext w wr) (fun _ i _ => (intOf i + 1).toNat)
  case atStart => exact ⟨l.length, (l.length : Int) - 1, _, 0, [], Nat.le_refl _, by omega, by omega, by go_num, rfl, (show [] = (l.drop l.length).reverse by simp), Row.made _ _ (Nat.le_refl _), (Ext.refl _).alloc _⟩
  case round =>
    obtain ⟨c, z, s2, c2, o, hc, hz1, hz2, rfl, rfl, HO, hR, hE⟩ := hrel
    have ho : o.length ≤ l.length := by rw [HO.out, List.length_reverse, List.length_drop]; omega
    by_cases hz : 0 ≤ z
    · obtain ⟨p, rfl⟩ := Int.eq_ofNat_of_zero_le hz
      have hp : p < l.length := by omega
      have HS := hide (show o ++ [l.getD p 0] = (l.drop p).reverse by
        rw [HO.out, show c = p + 1 by omega]; exact rev_step l hp)
      obtain ⟨g, off, e, hg, c1⟩ := (H.out.ext hE).at hp
      cases e
      have hd : decide ((0 : Int) ≤ (p : Int)) = true := decide_eq_true (by omega)
      obtain ⟨x, hx⟩ : ∃ x, x = l.getD p 0 := ⟨_, rfl⟩; rw [← hx] at c1 HS
      clear hx
      go_wp2_with (first | (at_builtin; refine append_int rfl (.tmp 13) (.tmp 18) rfl w.heap.size wr s2 c2 o x _ rfl rfl hR (by omega) hE.size ?_; intro g3 cap3 w3 R3 hb3))
      have E3 := Ext.of (Below.trans hE hb3)
      clear hb3
      go_wp2
      go_roundw
      case rel => exact ⟨p, (p : Int) - 1, _, _, _, by omega, by omega, by omega, by go_num, by rw [len_snocB o x], HS, R3, E3⟩
      case measure => simp [intOf]
    · have hd : decide ((0 : Int) ≤ z) = false := decide_eq_false hz
      have HG := hide (show l.reverse = o by rw [HO.out, show c = 0 by omega]; rfl)
      go_wp2
      go_ret
      exact ⟨s2, c2, by rw [HG.out]; rfl, by rw [HG.out]; exact hR, hE⟩
end Go.Proofs.Ytgmhodmgbhpdaac
