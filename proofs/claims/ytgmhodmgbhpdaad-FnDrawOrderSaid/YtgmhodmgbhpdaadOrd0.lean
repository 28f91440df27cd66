/- Whole sets, places: contracts. -/
import Derived.Test.YtgmhodmgbhpdaadWins
namespace Go.Proofs.Ytgmhodmgbhpdaad
open Go.ChangeShapes Go.WideShapes Go.ChangeAt Go.RowKit Go.Joins Go.Sort
set_option linter.unusedVariables false

theorem full_len : ∀ {n : Nat} {l : List Int}, l.Nodup → (∀ x ∈ l, 0 ≤ x ∧ x ≤ (n : Int) - 1) → l.length ≤ n ∧ (l.length = n → ∀ k : Nat, k < n → (k : Int) ∈ l) := by
  intro n
  induction n with
  | zero =>
    intro l _ h
    cases l with
    | nil => exact ⟨Nat.le_refl _, fun _ k hk => absurd hk (Nat.not_lt_zero _)⟩
    | cons a l => have := h a (List.mem_cons_self ..); omega
  | succ n ih =>
    intro l hn h
    by_cases hm : (n : Int) ∈ l
    · have hl := List.length_erase_of_mem hm
      have hp := List.length_pos_of_mem hm
      have hi := ih (hn.erase (n : Int)) (fun x hx => by
        have h1 := (hn.mem_erase_iff).1 hx
        have h2 := h x h1.2
        have h3 := h1.1
        refine ⟨h2.1, ?_⟩
        omega)
      refine ⟨by omega, fun e k hk => ?_⟩
      by_cases ek : k = n
      · subst ek; exact hm
      · exact List.mem_of_mem_erase (hi.2 (by omega) k (by omega))
    · have hi := ih hn (fun x hx => by
        have h2 := h x hx
        refine ⟨h2.1, ?_⟩
        by_cases e : x = (n : Int)
        · subst e; exact absurd hx hm
        · omega)
      exact ⟨by omega, fun e => by omega⟩
theorem cover_len : ∀ {n : Nat} {l : List Int}, (∀ k : Nat, k < n → (k : Int) ∈ l) → n ≤ l.length := by
  intro n
  induction n with
  | zero => intro l _; exact Nat.zero_le _
  | succ n ih =>
    intro l h
    have hm := h n (by omega)
    have hl := List.length_erase_of_mem hm
    have hp := List.length_pos_of_mem hm
    have := ih (l := l.erase (n : Int)) (fun k hk => (List.mem_erase_of_ne (by omega)).2 (h k (by omega)))
    omega
def fullI (c : Nat) : Int := (2 : Int) ^ c - 1
theorem setR_full (r : List Int) (c : Nat) : setR r c = fullI c ↔ r.length = c ∧ vmB r c = true := by
  have hp : (1 : Int) ≤ 2 ^ c := by
    have := Nat.two_pow_pos c
    have e : ((2 ^ c : Nat) : Int) = (2 : Int) ^ c := pow_cast c
    omega
  by_cases hv : vmB r c = true
  · have h := vmB_iff.1 hv
    rw [setR_yes hv]
    have hb := setN_bit r (fun x hx => (h.1 x hx).1) h.2
    constructor
    · intro e
      have e2 : setN r = 2 ^ c - 1 := by
        unfold fullI at e
        have e : ((2 ^ c : Nat) : Int) = (2 : Int) ^ c := pow_cast c
        omega
      have hall : ∀ k : Nat, k < c → (k : Int) ∈ r := fun k hk => by
        have h1 := hb k
        rw [e2, Nat.testBit_two_pow_sub_one, decide_eq_true hk] at h1
        exact of_decide_eq_true h1.symm
      have h1 := cover_len hall
      have h2 := (full_len h.2 h.1).1
      exact ⟨by omega, hv⟩
    · rintro ⟨e, _⟩
      have hall := (full_len h.2 h.1).2 e
      have e2 : setN r = 2 ^ c - 1 := by
        apply Nat.eq_of_testBit_eq
        intro k
        rw [hb k, Nat.testBit_two_pow_sub_one]
        by_cases hk : k < c
        · rw [decide_eq_true hk, decide_eq_true (hall k hk)]
        · rw [decide_eq_false hk]
          refine decide_eq_false fun hm => ?_
          have := (h.1 _ hm).2
          omega
      unfold fullI
      rw [e2, ← pow_cast]
      have := Nat.two_pow_pos c
      omega
  · rw [Bool.not_eq_true] at hv
    rw [setR_no hv]
    constructor
    · intro e; unfold fullI at e; omega
    · rintro ⟨_, h⟩; rw [hv] at h; cases h

theorem plc_ne {r : List Int} {a b : Int} (ha : a ∈ r) (hb : b ∈ r) (hne : a ≠ b) : plc r a ≠ plc r b := by
  unfold plc
  rw [if_pos ha, if_pos hb]
  intro e
  have e2 : r.idxOf a = r.idxOf b := by omega
  have h1 := List.getElem_idxOf (List.idxOf_lt_length_iff.2 ha)
  have h2 := List.getElem_idxOf (List.idxOf_lt_length_iff.2 hb)
  apply hne
  rw [← h1, ← h2]
  congr 1
theorem plc_nodup {r : List Int} {k : Nat} (hn : r.Nodup) (hk : k < r.length) : plc r (r.getD k 0) = k := by
  have e : r.getD k 0 = r[k] := by rw [List.getD_eq_getElem?_getD, List.getElem?_eq_getElem hk]; rfl
  rw [e]
  unfold plc
  rw [if_pos (List.getElem_mem _), hn.idxOf_getElem]
theorem implFullSet (c : Nat) (w : World) (hc : c ≤ 12) : Calls Try.prog 44 #[.int .i64 c] w (Same (.int .i64 (fullI c)) w) := by
  have hp := pow_bd (m := c) hc
  go_enter Try.func44, Try.ntmps44
  go_wp2
  go_ret
  exact Same.int rfl
set_option maxHeartbeats 400000 in
theorem implPlaceOf (sa : Option Addr) (cap n : Nat) (l : List Int) (x : Int) (w : World) (h : Lst w sa l) (hn : l.length = n) (hl : n ≤ 2000000) :
    Calls Try.prog 45 #[.slice sa n cap, .int .i64 x] w (Same (.int .i64 (plc l x)) w) := by
  subst hn
  have H := hide h; clear h
  go_enter Try.func45, Try.ntmps45
  go_wp2
  go_loop [9] (fun i => ∃ c : Nat, c ≤ l.length ∧ i = .int .i64 c ∧ Hid (x ∉ l.take c)) (fun i => l.length - (intOf i).toNat)
  case atStart => exact ⟨0, Nat.zero_le _, rfl, show _ ∉ _ by simp⟩
  case round =>
    obtain ⟨c, hc, rfl, HN⟩ := hrel
    by_cases hlt : c < l.length
    · obtain ⟨g, off, rfl, hg, c1⟩ := H.out.at hlt
      by_cases he : l.getD c 0 = x
      · have HF := hide (show (c : Int) = plc l x by
          have := HN.out; rw [← he] at this ⊢; exact (plc_at hlt this).symm)
        rw [he] at c1
        clear he
        go_wp2
        go_ret
        exact Same.int HF.out
      · have HN2 := hide (show x ∉ l.take (c + 1) by
          rw [take_snoc l c hlt, List.mem_append, List.mem_singleton]
          rintro (h | h)
          · exact HN.out h
          · exact he h.symm)
        obtain ⟨y, hy⟩ : ∃ y, y = l.getD c 0 := ⟨_, rfl⟩; rw [← hy] at c1 he
        have hd : ((y : Int) == x) = false := by rw [beq_eq_false_iff_ne]; exact he
        clear hy he
        go_wp2
        go_round
        case rel => exact ⟨c + 1, by omega, by go_num, HN2⟩
        case measure => simp [intOf]; omega
    · have HF := hide (show (-1 : Int) = plc l x by
        have := HN.out; rw [List.take_of_length_le (by omega)] at this; exact (plc_out this).symm)
      go_wp2
      go_ret
      exact Same.int HF.out
end Go.Proofs.Ytgmhodmgbhpdaad
