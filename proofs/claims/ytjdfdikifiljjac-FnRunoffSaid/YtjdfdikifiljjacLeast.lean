/- Chapter 2: least coalitions: contracts. -/
import Derived.Test.YtjdfdikifiljjacOrders
import Derived.Test.YtjdfdikifiljjacMat
namespace Go.Proofs.Ytjdfdikifiljjac
open Go.ChangeShapes Go.WideShapes Go.ChangeAt Go.RowKit Go.Joins Go.Sort
set_option linter.unusedVariables false

def minus (s i : Nat) : Nat := s - 2 ^ i
theorem bit_le {s i : Nat} (h : s.testBit i = true) : 2 ^ i ≤ s := Nat.ge_two_pow_of_testBit h
theorem minus_bit {s i : Nat} (h : s.testBit i = true) : (minus s i).testBit i = false := by
  unfold minus
  rw [Nat.testBit_eq_decide_div_mod_eq, decide_eq_true_eq] at h
  rw [Nat.testBit_eq_decide_div_mod_eq, decide_eq_false_iff_not]
  have e := Nat.sub_mul_div s (2 ^ i) 1
  rw [Nat.mul_one] at e
  rw [e]; omega
theorem minus_plus {s i : Nat} (h : s.testBit i = true) : minus s i + 2 ^ i = s := Nat.sub_add_cancel (bit_le h)
theorem wt_minus {l : List Int} {s i : Nat} (h : s.testBit i = true) (hi : i < l.length) : wt l (minus s i) = wt l s - l.getD i 0 := by
  have := wt_add l (minus s i) i (minus_bit h) hi
  rw [minus_plus h] at this; omega
theorem minus_le {s i b : Nat} (hs : s ≤ b) : minus s i ≤ b := Nat.le_trans (Nat.sub_le _ _) hs
theorem wrap_minus {s i : Nat} (hs : s ≤ 1000) (h : s.testBit i = true) : IntKind.i64.wrap ((s : Int) - (pw i : Int)) = (minus s i : Int) := by
  have h1 := bit_le h
  have e : (minus s i : Int) = (s : Int) - (pw i : Int) := by unfold minus pw; rw [Int.ofNat_sub h1]
  rw [← e]
  have : minus s i ≤ 1000 := minus_le hs
  exact IntWalk.i64_in _ (by omega)
/-- a set wins, and no member less does -/
def leastB (l : List Int) (need : Int) (s : Nat) : Bool := decide (need ≤ wt l s ∧ ∀ i, i < l.length → s.testBit i = true → wt l s - l.getD i 0 < need)
theorem leastB_iff {l : List Int} {need : Int} {s : Nat} : leastB l need s = true ↔ need ≤ wt l s ∧ ∀ i, i < l.length → s.testBit i = true → wt l s - l.getD i 0 < need := by unfold leastB; simp only [decide_eq_true_eq]
theorem leastB_no {l : List Int} {need : Int} {s : Nat} (h : ¬ (need ≤ wt l s ∧ ∀ i, i < l.length → s.testBit i = true → wt l s - l.getD i 0 < need)) : leastB l need s = false := decide_eq_false h
def lcK (l : List Int) (need : Int) : Nat → List (List Int)
  | 0 => []
  | S + 1 => lcK l need S ++ if leastB l need S then [mems S] else []
theorem lcK_yes {l : List Int} {need : Int} {S : Nat} (h : leastB l need S = true) : lcK l need S ++ [mems S] = lcK l need (S + 1) := by show _ = lcK l need S ++ _; rw [if_pos h]
theorem lcK_no {l : List Int} {need : Int} {S : Nat} (h : leastB l need S = false) : lcK l need S = lcK l need (S + 1) := by show _ = lcK l need S ++ _; rw [if_neg (by rw [h]; simp), List.append_nil]
theorem lcK_nil {l : List Int} {need : Int} : lcK l need 0 = [] := rfl
theorem lcK_len (l : List Int) (need : Int) (S : Nat) : (lcK l need S).length ≤ S := by
  induction S with
  | zero => simp [lcK]
  | succ S ih => unfold lcK; rw [List.length_append]; split <;> simp <;> omega
theorem lcK_row (l : List Int) (need : Int) (S : Nat) : ∀ r ∈ lcK l need S, r.length ≤ 20 := by
  induction S with
  | zero => intro r hr; simp [lcK] at hr
  | succ S ih =>
    intro r hr
    unfold lcK at hr
    rw [List.mem_append] at hr
    rcases hr with hr | hr
    · exact ih r hr
    · split at hr
      · rw [List.mem_singleton] at hr; rw [hr]; exact mems_len S
      · simp at hr
attribute [irreducible] lcK
def lcL (l : List Int) (need : Int) : List (List Int) := if sb l need = true then lcK l need (2 ^ l.length) else []
theorem getD_memL {ll : List (List Int)} {i : Nat} (h : i < ll.length) : ll.getD i [] ∈ ll := by
  rw [List.getD_eq_getElem?_getD, List.getElem?_eq_getElem h]; exact List.getElem_mem _
theorem offs_bd {ll : List (List Int)} {n : Nat} (h : ∀ r ∈ ll, r.length ≤ n) : ∀ i, i ≤ ll.length → offs ll i ≤ n * i := by
  intro i
  induction i with
  | zero => intro _; simp [offs]
  | succ i ih =>
    intro hi
    have h1 := ih (by omega)
    have h2 := h _ (getD_memL (show i < ll.length by omega))
    unfold offs
    rw [Nat.mul_add]; omega
theorem ll_bd {ll : List (List Int)} (hl : ll.length ≤ 256) (hr : ∀ r ∈ ll, r.length ≤ 20) : ll.length ≤ 256 ∧ (∀ i, i < ll.length → (ll.getD i []).length ≤ 20) ∧ ∀ i, i ≤ ll.length → offs ll i ≤ 1100000 :=
  ⟨hl, fun i hi => hr _ (getD_memL hi), fun i hi => by have := offs_bd hr i hi; omega⟩
theorem lcL_bd (l : List Int) (need : Int) : (lcL l need).length ≤ 256 ∧ (∀ i, i < (lcL l need).length → ((lcL l need).getD i []).length ≤ 20) ∧ ∀ i, i ≤ (lcL l need).length → offs (lcL l need) i ≤ 1100000 := by
  by_cases hv : sb l need = true
  · rw [show lcL l need = lcK l need (2 ^ l.length) from if_pos hv]
    have h8 : 2 ^ l.length ≤ 256 := pow8 (sb_iff.1 hv).2
    generalize 2 ^ l.length = m at h8
    exact ll_bd (Nat.le_trans (lcK_len l need m) h8) (lcK_row l need m)
  · rw [show lcL l need = [] from if_neg hv]
    exact ll_bd (Nat.zero_le _) (fun r h => absurd h List.not_mem_nil)
/-- what a call answers that makes a list of lists -/
def RetMat (ll : List (List Int)) (w : World) (e : Ending) (w' : World) : Prop :=
  ∃ sa cap hs, e = .returned (.slice sa ll.length cap) ∧ Mat w.heap.size w' sa cap ll hs ∧ Ext w w'
theorem RetMat.of {ll o : List (List Int)} {w w' : World} {sa : Option Addr} {cap base : Nat} {hs : Heads} (h : ll = o) (hr : Mat base w' sa cap o hs) (hb : w.heap.size ≤ base) (e : Ext w w') : RetMat ll w (.returned (.slice sa o.length cap)) w' := by
  subst h; exact ⟨sa, cap, hs, rfl, hr.le hb, e⟩
theorem len_snocL (o : List (List Int)) (x : List Int) : o.length + 1 = (o ++ [x]).length := by simp

end Go.Proofs.Ytjdfdikifiljjac
