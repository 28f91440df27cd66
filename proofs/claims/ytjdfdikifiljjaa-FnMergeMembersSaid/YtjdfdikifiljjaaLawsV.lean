/- Chapter 2: the small functions of the laws: contracts. -/
import Derived.Test.YtjdfdikifiljjaaPureB
namespace Go.Proofs.Ytjdfdikifiljjaa
open Go.ChangeShapes Go.WideShapes Go.ChangeAt Go.RowKit Go.Joins Go.Sort
set_option linter.unusedVariables false

theorem len_snocB (o : List Int) (x : Int) : o.length + 1 = (o ++ [x]).length := by simp
theorem nums_len (n : Nat) : (nums n).length = n := by
  induction n with
  | zero => rfl
  | succ n ih => unfold nums filK; rw [if_pos rfl, List.length_append]; show (nums n).length + 1 = n + 1; rw [ih]
set_option maxHeartbeats 400000 in
theorem isIn_any (sa : Option Addr) (cap n : Nat) (l : List Int) (x : Int) (w : World) (h : Lst w sa l) (hn : l.length = n) (hl : n ≤ 2000000) :
    Calls Try.prog 46 #[.slice sa n cap, .int .i64 x] w (Same (.bool (decide (x ∈ l))) w) := by
  subst hn
  have H := hide h; clear h
  go_enter Try.func46, Try.ntmps46
  go_wp2
  go_loop [5] (fun i => ∃ c : Nat, c ≤ l.length ∧ i = .int .i64 c ∧ Hid (x ∉ l.take c)) (fun i => l.length - (intOf i).toNat)
  case atStart => exact ⟨0, Nat.zero_le _, rfl, show _ ∉ _ by simp⟩
  case round =>
    obtain ⟨c, hc, rfl, HN⟩ := hrel
    by_cases hlt : c < l.length
    · obtain ⟨g, off, rfl, hg, c1⟩ := H.out.at hlt
      by_cases he : l.getD c 0 = x
      · have HF := hide (show true = decide (x ∈ l) from (decide_eq_true (by rw [← he]; exact getD_mem hlt)).symm)
        rw [he] at c1
        clear he
        go_wp2
        go_ret
        exact Same.bool HF.out
      · have HN2 := hide (show x ∉ l.take (c + 1) by
          rw [take_snoc l c hlt, List.mem_append, List.mem_singleton]
          rintro (h | h)
          · exact HN.out h
          · exact he h.symm)
        obtain ⟨y, hy⟩ : ∃ y, y = l.getD c 0 := ⟨_, rfl⟩; rw [← hy] at c1 he
        have hd : ((y : Int) == x) = false := by rw [beq_eq_false_iff_ne]; exact he
        clear hy he
        go_wp2
        go_round
        case rel => exact ⟨c + 1, by omega, by go_num, HN2⟩
        case measure => simp [intOf]; omega
    · have HF := hide (show false = decide (x ∈ l) by
        have := HN.out; rw [List.take_of_length_le (by omega)] at this; exact (decide_eq_false this).symm)
      go_wp2
      go_ret
      exact Same.bool HF.out
set_option maxHeartbeats 1000000 in
theorem numbers_any (n : Nat) (w : World) (hn : n ≤ 2000000) : Calls Try.prog 44 #[.int .i64 n] w (RetList (nums n) w) := by
  go_enter Try.func44, Try.ntmps44
  go_wp2
  go_loopw [3, 4] (fun v i wr => ∃ (c : Nat) (s2 : Option Addr) (c2 : Nat) (o : List Int), c ≤ n ∧ i = .int .i64 c ∧ v = .slice s2 o.length c2 ∧ Hid (o = nums c) ∧ Row w.heap.size wr s2 c2 o ∧ Ext w wr) (fun _ i _ => n - (intOf i).toNat)
  case atStart => exact ⟨0, _, 0, [], Nat.zero_le _, rfl, rfl, rfl, Row.made _ _ (Nat.le_refl _), (Ext.refl _).alloc _⟩
  case round =>
    obtain ⟨c, s2, c2, o, hc, rfl, rfl, HO, hr, hE⟩ := hrel
    have ho : o.length ≤ c := by rw [HO.out]; exact filK_len _ _
    by_cases hlt : c < n
    · have HS := hide (show o ++ [(c : Int)] = nums (c + 1) by rw [HO.out]; exact filK_yes rfl)
      go_wp2_with (first | (at_builtin; refine append_int rfl _ _ rfl w.heap.size wr s2 c2 o (c : Int) _ rfl rfl hr (by omega) hE.size ?_; intro g3 cap3 w3 R3 hb3))
      have E3 := Ext.of (Below.trans hE hb3)
      clear hb3
      go_wp2
      go_roundw
      case rel => exact ⟨c + 1, _, _, _, by omega, by go_num, by rw [len_snocB o (c : Int)], HS, R3, E3⟩
      case measure => simp [intOf]; omega
    · obtain rfl : c = n := by omega
      have HG := hide (show nums c = o from HO.out.symm)
      go_wp2
      go_ret
      exact ⟨s2, c2, by rw [HG.out]; rfl, by rw [HG.out]; exact hr, hE⟩
set_option maxHeartbeats 1000000 in
theorem others_any (sa : Option Addr) (cap q : Nat) (l : List Int) (n : Nat) (w : World) (h : Lst w sa l) (hq : l.length = q) (hl : q ≤ 2000000) (hn : n ≤ 2000000) : Calls Try.prog 45 #[.slice sa q cap, .int .i64 n] w (RetList (oth l n) w) := by
  subst hq
  have H := hide h; clear h
  go_enter Try.func45, Try.ntmps45
  go_wp2
  go_loopw [5, 6] (fun v i wr => ∃ (c : Nat) (s2 : Option Addr) (c2 : Nat) (o : List Int), c ≤ n ∧ i = .int .i64 c ∧ v = .slice s2 o.length c2 ∧ Hid (o = oth l c) ∧ Row w.heap.size wr s2 c2 o ∧ Ext w wr) (fun _ i _ => n - (intOf i).toNat)
  case atStart => exact ⟨0, _, 0, [], Nat.zero_le _, rfl, rfl, rfl, Row.made _ _ (Nat.le_refl _), (Ext.refl _).alloc _⟩
  case round =>
    obtain ⟨c, s2, c2, o, hc, rfl, rfl, HO, hr, hE⟩ := hrel
    have ho : o.length ≤ c := by rw [HO.out]; exact filK_len _ _
    by_cases hlt : c < n
    · by_cases hm : (c : Int) ∈ l
      · have HS := hide (show o = oth l (c + 1) by rw [HO.out]; exact filK_no (by simp [hm]))
        go_wp2_with fail; refine (Same.eqB (isIn_any _ _ _ l (c : Int) _ (H.out.ext hE) rfl hl) (decide_eq_true hm)).mono ?_; rintro e w' ⟨rfl, rfl⟩
        go_wp2
        go_roundw
        case rel => exact ⟨c + 1, _, _, _, by omega, by go_num, rfl, HS, hr, hE⟩
        case measure => simp [intOf]; omega
      · have HS := hide (show o ++ [(c : Int)] = oth l (c + 1) by rw [HO.out]; exact filK_yes (by simp [hm]))
        go_wp2_with fail; refine (Same.eqB (isIn_any _ _ _ l (c : Int) _ (H.out.ext hE) rfl hl) (decide_eq_false hm)).mono ?_; rintro e w' ⟨rfl, rfl⟩
        clear hm
        go_wp2_with (first | (at_builtin; refine append_int rfl _ _ rfl w.heap.size wr s2 c2 o (c : Int) _ rfl rfl hr (by omega) hE.size ?_; intro g3 cap3 w3 R3 hb3))
        have E3 := Ext.of (Below.trans hE hb3)
        clear hb3
        go_wp2
        go_roundw
        case rel => exact ⟨c + 1, _, _, _, by omega, by go_num, by rw [len_snocB o (c : Int)], HS, R3, E3⟩
        case measure => simp [intOf]; omega
    · obtain rfl : c = n := by omega
      have HG := hide (show oth l c = o from HO.out.symm)
      go_wp2
      go_ret
      exact ⟨s2, c2, by rw [HG.out]; rfl, by rw [HG.out]; exact hr, hE⟩
end Go.Proofs.Ytjdfdikifiljjaa
