/- Chapter 2: more small functions of the laws: contracts. -/
import Derived.Test.YtjdfdikifiljjabLawsV
import Derived.Test.YtjdfdikifiljjabPureC
namespace Go.Proofs.Ytjdfdikifiljjab
open Go.ChangeShapes Go.WideShapes Go.ChangeAt Go.RowKit Go.Joins Go.Sort
set_option linter.unusedVariables false

theorem mem_getDL {ll : List (List Int)} {c : List Int} (h : c ∈ ll) : ∃ i, i < ll.length ∧ ll.getD i [] = c := by
  obtain ⟨i, hi, e⟩ := List.mem_iff_getElem.1 h
  exact ⟨i, hi, by rw [List.getD_eq_getElem?_getD, List.getElem?_eq_getElem hi]; exact e⟩

theorem eqInts_same (sa sb : Option Addr) (ca cb n : Nat) (l : List Int) (w : World) (ha : Lst w sa l) (hb : Lst w sb l) (hn : l.length = n) (hl : n ≤ 2000000) :
    Calls Try.prog 47 #[.slice sa n ca, .slice sb n cb] w (Ret (.bool true) w) := by
  subst hn
  have := equalInts_any sa sb l l ca cb w ha hb hl hl
  rw [show decide (l = l) = true by simp] at this
  exact this
set_option maxHeartbeats 400000 in
theorem within_any (sa sb : Option Addr) (ca cb na nb : Nat) (a b : List Int) (w : World) (ha : Lst w sa a) (hb : Lst w sb b) (hna : a.length = na) (hnb : b.length = nb) (la : na ≤ 2000000) (lb : nb ≤ 2000000) :
    Calls Try.prog 41 #[.slice sa na ca, .slice sb nb cb] w (Same (.bool (decide (∀ x ∈ a, x ∈ b))) w) := by
  subst hna
  have HA := hide ha; clear ha
  have HB := hide hb; clear hb
  go_enter Try.func41, Try.ntmps41
  go_wp2
  go_loop [5] (fun i => ∃ c : Nat, c ≤ a.length ∧ i = .int .i64 c ∧ Hid (∀ x ∈ a.take c, x ∈ b)) (fun i => a.length - (intOf i).toNat)
  case atStart => exact ⟨0, Nat.zero_le _, rfl, (show ∀ x ∈ a.take 0, _ from fun x hx => by simp at hx)⟩
  case round =>
    obtain ⟨c, hc, rfl, HT⟩ := hrel
    by_cases hlt : c < a.length
    · obtain ⟨g, off, rfl, hg, c1⟩ := HA.out.at hlt
      by_cases hm : a.getD c 0 ∈ b
      · have HT2 := hide (show ∀ x ∈ a.take (c + 1), x ∈ b from fun x hx => by
          rw [take_snoc a c hlt, List.mem_append, List.mem_singleton] at hx
          rcases hx with hx | hx
          · exact HT.out x hx
          · rw [hx]; exact hm)
        have C := isIn_any sb cb nb b (a.getD c 0) w HB.out hnb lb
        rw [decide_eq_true hm] at C
        obtain ⟨y, hy⟩ : ∃ y, y = a.getD c 0 := ⟨_, rfl⟩; rw [← hy] at c1 C
        clear hy hm
        go_wp2_with fail; refine (C).mono ?_; rintro e w' ⟨rfl, rfl⟩
        go_wp2
        go_round
        case rel => exact ⟨c + 1, by omega, by go_num, HT2⟩
        case measure => simp [intOf]; omega
      · have HF := hide (show false = decide (∀ x ∈ a, x ∈ b) from (decide_eq_false fun h => hm (h _ (getD_mem hlt))).symm)
        have C := isIn_any sb cb nb b (a.getD c 0) w HB.out hnb lb
        rw [decide_eq_false hm] at C
        obtain ⟨y, hy⟩ : ∃ y, y = a.getD c 0 := ⟨_, rfl⟩; rw [← hy] at c1 C
        clear hy hm
        go_wp2_with fail; refine (C).mono ?_; rintro e w' ⟨rfl, rfl⟩
        go_wp2
        go_ret
        exact Same.bool HF.out
    · have HF := hide (show true = decide (∀ x ∈ a, x ∈ b) from (decide_eq_true fun x hx => HT.out x (by rw [List.take_of_length_le (by omega)]; exact hx)).symm)
      go_wp2
      go_ret
      exact Same.bool HF.out

theorem implDualY (sa : Option Addr) (cap : Nat) (l : List Int) (need dn : Int) (w : World) (h : Lst w sa l) (hl : l.length ≤ 2000000) (hv : vb l need = true) (hd : dn = tot l - need + 1) :
    Calls Try.prog 48 #[.agg #[.slice sa l.length cap, .int .i64 need]] w (RetBody l dn w) := by
  have := implDual sa cap l need w h hl
  rwa [(dual_yes hv).1, (dual_yes hv).2, ← hd] at this
end Go.Proofs.Ytjdfdikifiljjab
