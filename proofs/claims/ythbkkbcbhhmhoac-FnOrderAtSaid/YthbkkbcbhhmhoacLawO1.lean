/- Chapter 3: the walks of the laws of orders and turns, at drawn arguments. -/
import Derived.Test.YthbkkbcbhhmhoacDrawQ
import Derived.Test.YthbkkbcbhhmhoacOrd2
namespace Go.Proofs.Ythbkkbcbhhmhoac
open Go.ChangeShapes Go.WideShapes Go.ChangeAt Go.RowKit Go.Joins Go.Sort
set_option linter.unusedVariables false

theorem len_snocO (o : List Int) (x : Int) : o.length + 1 = (o ++ [x]).length := by simp
theorem rev_stepO (l : List Int) {p : Nat} (h : p < l.length) : (l.drop (p + 1)).reverse ++ [l.getD p 0] = (l.drop p).reverse := by
  rw [List.drop_eq_getElem_cons h, List.reverse_cons, List.getD_eq_getElem?_getD, List.getElem?_eq_getElem h]; rfl

theorem vo_reverse {l : List Int} (h : vo l = true) : vo l.reverse = true := by
  obtain ⟨h1, h2⟩ := vo_iff.1 h
  obtain ⟨h3, h4⟩ := vmB_iff.1 h2
  refine vo_iff.2 ⟨by rw [List.length_reverse]; exact h1, vmB_iff.2 ⟨fun x hx => ?_, List.pairwise_reverse.2 (h4.imp fun h e => h e.symm)⟩⟩
  rw [List.length_reverse]
  exact h3 x (List.mem_reverse.1 hx)
theorem tno_at {l : List Int} (h : vo l = true) {k : Nat} (hk : k < l.length) : tno l (l.getD k 0) = k := by
  rw [tno_yes h]; exact plc_nodup (vo_facts h).2.2 hk
theorem tno_spot {l : List Int} {x : Int} (h : 0 ≤ tno l x) : ∃ k : Nat, tno l x = (k : Int) ∧ k < l.length ∧ l.getD k 0 = x := by
  by_cases hv : vo l = true
  · rw [tno_yes hv] at h ⊢
    by_cases hx : x ∈ l
    · obtain ⟨k, hk, e⟩ := mem_getD hx
      exact ⟨k, by rw [← e]; exact plc_nodup (vo_facts hv).2.2 hk, hk, e⟩
    · rw [plc_out hx] at h; omega
  · rw [Bool.not_eq_true] at hv; rw [tno_no hv] at h; omega
set_option maxHeartbeats 1000000 in
theorem lawBack (sa : Option Addr) (cap n : Nat) (l : List Int) (w : World) (h : Lst w sa l) (hn : l.length = n) (hl : n ≤ 2000000) :
    Calls Try.prog 35 #[.slice sa n cap] w (RetList l.reverse w) := by
  subst hn
  have H := hide h; clear h
  go_enter Try.func35, Try.ntmps35
  go_wp2
  go_loopw [3, 4] (fun v i wr => ∃ (c : Nat) (z : Int) (s2 : Option Addr) (c2 : Nat) (o : List Int), c ≤ l.length ∧ z + 1 ≤ c ∧ (c : Int) ≤ z + 1 ∧ i = .int .i64 z ∧ v = .slice s2 o.length c2 ∧ Hid (o = (l.drop c).reverse) ∧ Row w.heap.size wr s2 c2 o ∧ Ext w wr) (fun _ i _ => (intOf i + 1).toNat)
  case atStart => exact ⟨l.length, (l.length : Int) - 1, _, 0, [], Nat.le_refl _, by omega, by omega, by go_num, rfl, (show [] = (l.drop l.length).reverse by simp), Row.made _ _ (Nat.le_refl _), (Ext.refl _).alloc _⟩
  case round =>
    obtain ⟨c, z, s2, c2, o, hc, hz1, hz2, rfl, rfl, HO, hR, hE⟩ := hrel
    have ho : o.length ≤ l.length := by rw [HO.out, List.length_reverse, List.length_drop]; omega
    by_cases hz : 0 ≤ z
    · obtain ⟨p, rfl⟩ := Int.eq_ofNat_of_zero_le hz
      have hp : p < l.length := by omega
      have HS := hide (show o ++ [l.getD p 0] = (l.drop p).reverse by
        rw [HO.out, show c = p + 1 by omega]; exact rev_stepO l hp)
      obtain ⟨g, off, e, hg, c1⟩ := (H.out.ext hE).at hp
      cases e
      have hd : decide ((0 : Int) ≤ (p : Int)) = true := decide_eq_true (by omega)
      obtain ⟨x, hx⟩ : ∃ x, x = l.getD p 0 := ⟨_, rfl⟩; rw [← hx] at c1 HS
      clear hx
      go_wp2_with (first | (at_builtin; refine append_int rfl (.tmp 13) (.tmp 18) rfl w.heap.size wr s2 c2 o x _ rfl rfl hR (by omega) hE.size ?_; intro g3 cap3 w3 R3 hb3))
      have E3 := Ext.of (Below.trans hE hb3)
      clear hb3
      go_wp2
      go_roundw
      case rel => exact ⟨p, (p : Int) - 1, _, _, _, by omega, by omega, by omega, by go_num, by rw [len_snocO o x], HS, R3, E3⟩
      case measure => simp [intOf]
    · have hd : decide ((0 : Int) ≤ z) = false := decide_eq_false hz
      have HG := hide (show l.reverse = o by rw [HO.out, show c = 0 by omega]; rfl)
      go_wp2
      go_ret
      exact ⟨s2, c2, by rw [HG.out]; rfl, by rw [HG.out]; exact hR, hE⟩

end Go.Proofs.Ythbkkbcbhhmhoac
