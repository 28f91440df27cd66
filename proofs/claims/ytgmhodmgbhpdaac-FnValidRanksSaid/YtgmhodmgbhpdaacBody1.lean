/- Chapter 2: sums, valid bodies. -/
import Derived.Test.YtgmhodmgbhpdaacExt
namespace Go.Proofs.Ytgmhodmgbhpdaac
open Go.ChangeShapes Go.WideShapes Go.ChangeAt Go.RowKit Go.Joins Go.Sort
set_option linter.unusedVariables false

def tot (l : List Int) : Int := l.foldr (· + ·) 0
theorem tot_nil : tot [] = 0 := rfl
theorem tot_cons (a : Int) (l : List Int) : tot (a :: l) = a + tot l := rfl
theorem tot_append (a b : List Int) : tot (a ++ b) = tot a + tot b := by
  induction a with
  | nil => simp [tot_nil]
  | cons x t ih => simp only [List.cons_append, tot_cons, ih]; omega
theorem take_getD (l : List Int) (k : Nat) (h : k < l.length) : l.take (k + 1) = l.take k ++ [l.getD k 0] := by
  rw [List.take_succ_eq_append_getElem h, List.getD_eq_getElem?_getD, List.getElem?_eq_getElem h]; rfl
theorem tot_take (l : List Int) (k : Nat) (h : k < l.length) : tot (l.take (k + 1)) = tot (l.take k) + l.getD k 0 := by
  rw [take_getD l k h, tot_append]; simp [tot]
theorem getD_mem {l : List Int} {k : Nat} (h : k < l.length) : l.getD k 0 ∈ l := by
  rw [List.getD_eq_getElem?_getD, List.getElem?_eq_getElem h]; exact List.getElem_mem _
theorem tot_bd (l : List Int) (m : Int) (h : ∀ x ∈ l, 0 ≤ x ∧ x ≤ m) : 0 ≤ tot l ∧ tot l ≤ m * l.length := by
  induction l with
  | nil => simp [tot_nil]
  | cons a t ih =>
    have h1 := h a (List.mem_cons_self ..)
    have h2 := ih fun x hx => h x (List.mem_cons_of_mem _ hx)
    rw [tot_cons, List.length_cons, Int.natCast_add, Int.mul_add]; omega
theorem tot_bd2 (l : List Int) (h : ∀ x ∈ l, 0 ≤ x ∧ x ≤ 1000000) (hl : l.length ≤ 2000000) : 0 ≤ tot l ∧ tot l ≤ 2000000000000 := by
  have := tot_bd l 1000000 h; omega
theorem mem_take {l : List Int} {k : Nat} {x : Int} (h : x ∈ l.take k) : x ∈ l := List.mem_of_mem_take h


/-- a body is valid -/
def vb (l : List Int) (need : Int) : Bool := decide (1 ≤ l.length ∧ l.length ≤ 12 ∧ (∀ x ∈ l, 0 ≤ x ∧ x ≤ 100) ∧ 1 ≤ need ∧ need ≤ tot l)
theorem vb_iff {l : List Int} {need : Int} : vb l need = true ↔ 1 ≤ l.length ∧ l.length ≤ 12 ∧ (∀ x ∈ l, 0 ≤ x ∧ x ≤ 100) ∧ 1 ≤ need ∧ need ≤ tot l := by unfold vb; simp only [decide_eq_true_eq]
theorem vb_no {l : List Int} {need : Int} (h : ¬ (1 ≤ l.length ∧ l.length ≤ 12 ∧ (∀ x ∈ l, 0 ≤ x ∧ x ≤ 100) ∧ 1 ≤ need ∧ need ≤ tot l)) : vb l need = false := decide_eq_false h
theorem all_succ {l : List Int} {k : Nat} {p : Int → Prop} (h : ∀ x ∈ l.take k, p x) (hk : k < l.length) (hp : p (l.getD k 0)) : ∀ x ∈ l.take (k + 1), p x := by
  intro x hx
  rw [take_getD l k hk, List.mem_append, List.mem_singleton] at hx
  rcases hx with hx | rfl
  · exact h x hx
  · exact hp


def alli (l : List Int) (lo hi : Int) : Bool := decide (∀ x ∈ l, lo ≤ x ∧ x ≤ hi)
theorem alli_iff {l : List Int} {lo hi : Int} : alli l lo hi = true ↔ ∀ x ∈ l, lo ≤ x ∧ x ≤ hi := by unfold alli; simp
theorem alli_no {l : List Int} {lo hi : Int} (h : ¬ ∀ x ∈ l, lo ≤ x ∧ x ≤ hi) : alli l lo hi = false := decide_eq_false h
set_option maxHeartbeats 1000000 in
theorem specAllIn (sa : Option Addr) (cap n : Nat) (l : List Int) (lo hi : Int) (w : World) (h : Lst w sa l) (hn : l.length = n) (hl : n ≤ 2000000) :
    Calls Try.prog 84 #[.slice sa n cap, .int .i64 lo, .int .i64 hi] w (Same (.bool (alli l lo hi)) w) := by
  subst hn
  have H := hide h; clear h
  go_enter Try.func84, Try.ntmps84
  go_wp2
  go_loop [7] (fun i => ∃ k : Nat, k ≤ l.length ∧ i = .int .i64 k ∧ ∀ x ∈ l.take k, lo ≤ x ∧ x ≤ hi) (fun i => l.length - (intOf i).toNat)
  case atStart => exact ⟨0, Nat.zero_le _, rfl, by simp⟩
  case round =>
    obtain ⟨k, hk, rfl, ht⟩ := hrel
    have HT := hide ht; clear ht
    by_cases hlt : k < l.length
    · obtain ⟨g, off, rfl, hg, c1⟩ := H.out.at hlt
      obtain ⟨x, hx⟩ : ∃ x, x = l.getD k 0 := ⟨_, rfl⟩; rw [← hx] at c1
      have HX := hide hx; clear hx
      by_cases hin : inr x lo hi = true
      · go_wp2_with fail; refine (specInr _ _ _ _).mono ?_; rintro e w' ⟨rfl, rfl⟩
        go_wp2
        go_round
        case rel => exact ⟨k + 1, by omega, by go_num, all_succ HT.out hlt (by rw [← HX.out]; exact inr_iff.1 hin)⟩
        case measure => simp [intOf]; omega
      · have HF := hide (alli_no fun h => hin (inr_iff.2 (by rw [HX.out]; exact h _ (getD_mem hlt))) : alli l lo hi = false)
        rw [Bool.not_eq_true] at hin
        go_wp2_with fail; refine (specInr _ _ _ _).mono ?_; rintro e w' ⟨rfl, rfl⟩
        go_wp2
        go_ret
        exact Same.bool (by rw [HF.out])
    · have HF := hide (show alli l lo hi = true from alli_iff.2 (by have := HT.out; rwa [List.take_of_length_le (by omega)] at this))
      go_wp2
      go_ret
      exact Same.bool (by rw [HF.out])
theorem Same.eqB {P : Program} {f : FuncId} {args : Array Value} {w : World} {a b : Bool} (h : Calls P f args w (Same (.bool a) w)) (e : a = b) : Calls P f args w (Same (.bool b) w) := e ▸ h
theorem Ret.eqB {P : Program} {f : FuncId} {args : Array Value} {w : World} {a b : Bool} (h : Calls P f args w (Ret (.bool a) w)) (e : a = b) : Calls P f args w (Ret (.bool b) w) := e ▸ h

end Go.Proofs.Ytgmhodmgbhpdaac
