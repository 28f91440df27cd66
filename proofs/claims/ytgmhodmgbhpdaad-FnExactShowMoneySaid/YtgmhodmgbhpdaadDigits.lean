/- The digits of numbers: the contracts of the program's digitsOf and of the model's digits, and of both sums of digits. -/
import Derived.Test.YtgmhodmgbhpdaadLists
import Derived.Test.YtgmhodmgbhpdaadAmounts
import Derived.Test.YtgmhodmgbhpdaadPure2
namespace Go.Proofs.Ytgmhodmgbhpdaad
open Go.ChangeShapes Go.WideShapes Go.ChangeAt Go.RowKit Go.Joins
set_option linter.unusedVariables false

theorem Row.one (base : Nat) (w : World) (v : Int) (hb : base ≤ w.heap.size) : Row base (w.alloc (.cells #[.int .i64 v] 3)) (some ⟨w.heap.size, 0, none⟩) 1 [v] := by
  refine ⟨by simp, .inr ⟨w.heap.size, 1, #[.int .i64 v], rfl, hb, heap_alloc_new w _, Nat.le_refl _, by unfold maxLen; omega, by simp, by simp⟩⟩

set_option maxHeartbeats 1000000 in
theorem digitsOf_any (n : Nat) (w : World) (hn : n < 10 ^ 12) : Calls Try.prog 59 #[.int .i64 n] w (RetList (rdig n) w) := by
  have hlen := rdig_len 11 n hn
  have Hlen := hide hlen
  have Hsplit := hide (show rdig n = [((n % 10 : Nat) : Int)] ++ (if 0 < n / 10 then rdig (n / 10) else []) by
    by_cases h : n < 10
    · rw [rdig_small n h, if_neg (by omega), Nat.mod_eq_of_lt h]; rfl
    · rw [rdig_big n (by omega), if_pos (by omega)]; rfl)
  clear hlen
  go_enter Try.func59, Try.ntmps59
  go_wp2
  go_loopw [0, 3] (fun a v wr => ∃ (m : Nat) (o : List Int) (sa : Option Addr) (cap : Nat), a = .int .i64 m ∧ m ≤ n ∧ v = .slice sa o.length cap ∧ Row w.heap.size wr sa cap o ∧ o ++ (if 0 < m then rdig m else []) = rdig n ∧ Below w.heap.size w wr)
    (fun a _ _ => (intOf a).toNat)
  case atStart =>
    refine ⟨n / 10, [((n % 10 : Nat) : Int)], _, _, ?_, by omega, rfl, ?_, Hsplit.out.symm, (Below.refl _ _).alloc (Nat.le_refl _) _⟩
    · rw [Int.natCast_ediv]; rfl
    · exact Row.one _ w _ (Nat.le_refl _)
  case round =>
    obtain ⟨m, o, sa, cap, rfl, hm, rfl, hr, ho, hB⟩ := hrel
    have HR := hide hr
    have HB := hide hB
    have HO := hide ho
    clear hr hB ho
    have hol : o.length ≤ 12 := by
      have := Hlen.out
      rw [← HO.out, List.length_append] at this; omega
    by_cases h0 : 0 < m
    · have HN := hide (show (o ++ [((m % 10 : Nat) : Int)]) ++ (if 0 < m / 10 then rdig (m / 10) else []) = rdig n by
        rw [← HO.out, if_pos h0, List.append_assoc]
        by_cases h : m < 10
        · rw [rdig_small m h, if_neg (by omega), Nat.mod_eq_of_lt h]; rfl
        · rw [rdig_big m (by omega), if_pos (by omega)]; rfl)
      go_wp2_with (first | (at_builtin; refine append_int rfl _ _ rfl w.heap.size wr _ _ o _ _ rfl rfl HR.out (by omega) HB.out.size ?_; intro g cap' w2 R2 hb2))
      have HR2 := hide R2
      have B2 := hide (HB.out.trans hb2)
      clear R2 hb2 HR HB
      go_wp2
      go_roundw
      case rel => exact ⟨m / 10, o ++ [_], _, _, by rw [Int.natCast_ediv]; rfl, by omega, by rw [List.length_append]; rfl, HR2.out, HN.out, B2.out⟩
      case measure => simp [intOf]; omega
    · have HF := hide (show rdig n = o by rw [← HO.out, if_neg h0, List.append_nil])
      go_wp2
      go_ret
      exact RetList.of (base := 0) HF.out HR.out HB.out


/-- what a call answers that makes new memory at the most -/
def RetI (n : Int) (w : World) (e : Ending) (w' : World) : Prop := e = .returned (.int .i64 n) ∧ Below w.heap.size w w'

theorem take_snoc_getD (l : List Int) (k : Nat) (h : k < l.length) : l.take (k + 1) = l.take k ++ [l.getD k 0] := by
  rw [List.take_succ_eq_append_getElem h, List.getD_eq_getElem?_getD, List.getElem?_eq_getElem h]; rfl
theorem getD_in {l : List Int} {k : Nat} (h : k < l.length) : l.getD k 0 ∈ l := by
  rw [List.getD_eq_getElem?_getD, List.getElem?_eq_getElem h]; exact List.getElem_mem _
theorem rdig_amt (n : Int) (h : VA n) : (rdig n.toNat).length ≤ 7 := rdig_len 6 _ (by have := h.1; have := h.2; omega)


end Go.Proofs.Ytgmhodmgbhpdaad
