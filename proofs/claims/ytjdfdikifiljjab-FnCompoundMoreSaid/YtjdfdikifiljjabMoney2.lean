/- Chapter 1's compound interest: the contracts of 'grow' and of both functions Compound. -/
import Derived.Test.YtjdfdikifiljjabMoney1
namespace Go.Proofs.Ytjdfdikifiljjab
open Go.ChangeShapes Go.WideShapes Go.ChangeAt Go.RowKit Go.Joins
set_option linter.unusedVariables false

/-- an amount after some periods -/
def growF (p q : Int) : Nat → Int → Int
  | 0, n => n
  | k + 1, n => if 1000000 < n + reven n p q then -1 else growF p q k (n + reven n p q)

theorem growF_in (p q : Int) (hp : 0 ≤ p) (hpq : p ≤ q) (hq : 1 ≤ q) (k : Nat) : ∀ n, 0 ≤ n → n ≤ 1000000 → growF p q k n = -1 ∨ (n ≤ growF p q k n ∧ growF p q k n ≤ 1000000) := by
  induction k with
  | zero => intro n h1 h2; right; exact ⟨Int.le_refl _, h2⟩
  | succ k ih =>
    intro n h1 h2
    have hb := reven_bd n p q h1 hp hpq hq
    simp only [growF]
    split
    · left; rfl
    · rcases ih (n + reven n p q) (by omega) (by omega) with h | h
      · left; exact h
      · right; omega
theorem growF_succ (p q : Int) (hp : 0 ≤ p) (hpq : p ≤ q) (hq : 1 ≤ q) (k : Nat) : ∀ n, 0 ≤ n → n ≤ 1000000 → 0 ≤ growF p q (k + 1) n → 0 ≤ growF p q k n ∧ growF p q k n ≤ 1000000 ∧ growF p q 1 (growF p q k n) = growF p q (k + 1) n := by
  induction k with
  | zero => intro n h1 h2 _; exact ⟨h1, h2, rfl⟩
  | succ k ih =>
    intro n h1 h2 h
    have hb := reven_bd n p q h1 hp hpq hq
    have e1 : growF p q (k + 1 + 1) n = if 1000000 < n + reven n p q then -1 else growF p q (k + 1) (n + reven n p q) := rfl
    have e2 : growF p q (k + 1) n = if 1000000 < n + reven n p q then -1 else growF p q k (n + reven n p q) := rfl
    rw [e1] at h ⊢
    rw [e2]
    split at h
    · omega
    · rename_i hn
      rw [if_neg hn, if_neg hn]
      exact ih _ (by omega) (by omega) h
theorem growF_mono (p q : Int) (hp : 0 ≤ p) (hpq : p ≤ q) (hq : 1 ≤ q) (k : Nat) : ∀ n m, 0 ≤ n → n ≤ m → m ≤ 1000000 → growF p q k m < 0 ∨ growF p q k n ≤ growF p q k m := by
  induction k with
  | zero => intro n m _ h _; right; exact h
  | succ k ih =>
    intro n m h0 h h2
    have hr := reven_mono n m p q h hp hq
    have hb := reven_bd n p q h0 hp hpq hq
    simp only [growF]
    by_cases hm : 1000000 < m + reven m p q
    · left; rw [if_pos hm]; omega
    · rw [if_neg hm, if_neg (by omega)]
      exact ih _ _ (by omega) (by omega) (by omega)
theorem reven_none (n q : Int) (hq : 1 ≤ q) : reven n 0 q = 0 := by
  have h : rnear n 0 q = 0 := by
    unfold rnear; simp; exact Int.ediv_eq_zero_of_lt (by omega) (by omega)
  unfold reven; rw [h]; simp
theorem growF_none (q : Int) (hq : 1 ≤ q) (k : Nat) : ∀ n, n ≤ 1000000 → growF 0 q k n = n := by
  induction k with
  | zero => intro n _; rfl
  | succ k ih => intro n h; simp only [growF]; rw [reven_none n q hq, if_neg (by omega), Int.add_zero]; exact ih n h

set_option maxHeartbeats 1000000 in
theorem grow_any (n p q : Int) (P : Nat) (w : World) (hn : VA n) (hv : VR p q) (hP : P ≤ 60) :
    Calls Try.prog 95 #[.int .i64 n, .agg #[.int .i64 p, .int .i64 q], .int .i64 P] w (RetInt (growF p q P n) w) := by
  obtain ⟨v1, v2, v3, v4⟩ := id hv
  go_enter Try.func95, Try.ntmps95
  go_wp2
  go_loopw [0, 7] (fun a i wr => ∃ (k : Nat) (m : Int), k ≤ P ∧ i = .int .i64 k ∧ a = .int .i64 m ∧ 0 ≤ m ∧ m ≤ 1000000 ∧ growF p q (P - k) m = growF p q P n ∧ wr.heap[w.heap.size]? = some (.cells #[.int .i64 p, .int .i64 q] 52 (0, 0)) ∧ w.heap.size < wr.heap.size ∧ Below w.heap.size w wr)
    (fun _ i _ => P - (intOf i).toNat)
  case atStart => exact ⟨0, n, Nat.zero_le _, rfl, rfl, hn.1, hn.2, rfl, box_new w _ _, by simp, (Below.refl _ _).alloc (Nat.le_refl _) _⟩
  case round =>
    obtain ⟨k, m, hk, rfl, rfl, hm0, hm1, hg, hx, hz, hB⟩ := hrel
    have hbd := reven_bd m p q hm0 v3 v4 v1
    have HB := hide hB
    have HX := hide hx
    have HG := hide hg
    clear hB hx hg
    by_cases hlt : k < P
    · obtain ⟨c0, c1, _, _⟩ := box2 HX.out
      have HS := hide (show growF p q (P - k) m = if 1000000 < m + reven m p q then -1 else growF p q (P - (k + 1)) (m + reven m p q) by
        rw [show P - k = (P - (k + 1)) + 1 by omega]; rfl)
      go_wp2_with fail
      refine (even_any m p q _ hm0 (by omega) hv).mono ?_
      rintro e w1 ⟨rfl, hb⟩
      have x1 := below_box hb hz HX.out
      have hz1 := Nat.lt_of_lt_of_le hz hb.size
      have B1 := hide (HB.out.trans (hb.mono HB.out.size))
      clear hb c0 c1 HX HB
      have X1 := hide x1
      clear x1
      obtain ⟨t, ht⟩ : ∃ t, t = reven m p q := ⟨_, rfl⟩
      rw [← ht] at hbd HS
      rw [← ht]
      clear ht
      by_cases hbig : 1000000 < m + t
      · have hfin := hide (show (-1 : Int) = growF p q P n by rw [← HG.out, HS.out, if_pos hbig])
        clear HS HG
        go_wp2
        go_ret
        exact ⟨ret_int hfin.out, B1.out⟩
      · have hfin := hide (show growF p q (P - (k + 1)) (m + t) = growF p q P n by rw [← HG.out, HS.out, if_neg hbig])
        clear HS HG
        go_wp2
        go_roundw
        case rel => exact ⟨k + 1, m + t, by omega, by go_num, rfl, by omega, by omega, hfin.out, X1.out, hz1, B1.out⟩
        case measure => simp [intOf]; omega
    · have hfin := hide (show m = growF p q P n by rw [← HG.out, show P - k = 0 by omega]; rfl)
      clear HG
      go_wp2
      go_ret
      exact ⟨ret_int hfin.out, HB.out⟩

set_option maxHeartbeats 1000000 in
theorem specCompound_yes (n p q : Int) (P : Nat) (w : World) (hn : VA n) (hv : VR p q) (hP : P ≤ 60) : Calls Try.prog 57 #[.int .i64 n, .agg #[.int .i64 p, .int .i64 q], .int .i64 P] w (RetInt (growF p q P n) w) := by
  obtain ⟨n1, n2⟩ := id hn
  obtain ⟨v1, v2, v3, v4⟩ := id hv
  go_enter Try.func57, Try.ntmps57
  go_wp2_with (first | (go_at_call 92; refine (specAmt_yes _ _ ⟨n1, n2⟩).mono ?_; rintro e w' ⟨rfl, rfl⟩))
  refine (specvRate_yes p q _ hv).mono ?_
  rintro e w1 ⟨rfl, hb⟩
  have x1 := below_box hb (by simp) (box_new w _ _)
  have hz1 : w.heap.size < w1.heap.size := by have := hb.size; simp at this; omega
  have B1 := hide (((Below.refl _ _).alloc (Nat.le_refl _) _).trans (hb.mono (by simp)))
  clear hb
  obtain ⟨c0, c1, _, _⟩ := box2 x1
  go_wp2_with fail
  refine (specInRange_yes _ _ _ _ (by omega) (by omega)).mono ?_
  rintro e w' ⟨rfl, rfl⟩
  go_wp2_with fail
  refine (grow_any n p q P _ hn hv hP).mono ?_
  rintro e w2 ⟨rfl, hb⟩
  have B2 := hide (B1.out.trans (hb.mono B1.out.size))
  clear hb c0 c1 x1
  go_wp2
  go_ret
  exact ⟨rfl, B2.out⟩

theorem specCompound_no (n p q P : Int) (w : World) (h : ¬ (VA n ∧ VR p q ∧ 0 ≤ P ∧ P ≤ 60)) : Calls Try.prog 57 #[.int .i64 n, .agg #[.int .i64 p, .int .i64 q], .int .i64 P] w (RetInt (-1) w) := by
  by_cases n1 : 0 ≤ n
  · by_cases n2 : n ≤ 1000000
    · by_cases hv : VR p q
      · by_cases q1 : 0 ≤ P
        · have q2 : ¬ P ≤ 60 := fun x => h ⟨⟨n1, n2⟩, hv, q1, x⟩
          have qd : decide (P ≤ 60) = false := by simp; omega
          clear h q2
          go_enter Try.func57, Try.ntmps57
          go_wp2_with (first | (go_at_call 92; refine (specAmt_yes _ _ ⟨n1, n2⟩).mono ?_; rintro e w' ⟨rfl, rfl⟩))
          refine (specvRate_yes p q _ hv).mono ?_
          rintro e w1 ⟨rfl, hb⟩
          have x1 := below_box hb (by simp) (box_new w _ _)
          have hz1 : w.heap.size < w1.heap.size := by have := hb.size; simp at this; omega
          have B1 := hide (((Below.refl _ _).alloc (Nat.le_refl _) _).trans (hb.mono (by simp)))
          clear hb
          obtain ⟨c0, c1, _, _⟩ := box2 x1
          go_wp2
          go_ret
          exact ⟨rfl, B1.out⟩
        · clear h
          go_enter Try.func57, Try.ntmps57
          go_wp2_with (first | (go_at_call 92; refine (specAmt_yes _ _ ⟨n1, n2⟩).mono ?_; rintro e w' ⟨rfl, rfl⟩))
          refine (specvRate_yes p q _ hv).mono ?_
          rintro e w1 ⟨rfl, hb⟩
          have x1 := below_box hb (by simp) (box_new w _ _)
          have hz1 : w.heap.size < w1.heap.size := by have := hb.size; simp at this; omega
          have B1 := hide (((Below.refl _ _).alloc (Nat.le_refl _) _).trans (hb.mono (by simp)))
          clear hb
          obtain ⟨c0, c1, _, _⟩ := box2 x1
          go_wp2
          go_ret
          exact ⟨rfl, B1.out⟩
      · clear h
        go_enter Try.func57, Try.ntmps57
        go_wp2_with (first | (go_at_call 92; refine (specAmt_yes _ _ ⟨n1, n2⟩).mono ?_; rintro e w' ⟨rfl, rfl⟩))
        refine (specvRate_no p q _ hv).mono ?_
        rintro e w1 ⟨rfl, hb⟩
        have x1 := below_box hb (by simp) (box_new w _ _)
        have hz1 : w.heap.size < w1.heap.size := by have := hb.size; simp at this; omega
        have B1 := hide (((Below.refl _ _).alloc (Nat.le_refl _) _).trans (hb.mono (by simp)))
        clear hb
        obtain ⟨c0, c1, _, _⟩ := box2 x1
        go_wp2
        go_ret
        exact ⟨rfl, B1.out⟩
    · clear h
      go_enter Try.func57, Try.ntmps57
      go_wp2
      go_ret
      refine ⟨rfl, ?_⟩
      repeat (first | exact Below.refl _ _ | assumption | refine Below.alloc ?_ (by first | exact Nat.le_refl _ | omega | (simp; done) | (simp; omega)) _ | refine Below.setCell ?_ (by first | exact Nat.le_refl _ | omega | (simp; done) | (simp; omega)) _ | refine Below.drew ?_ | refine below_draw ?_ | refine Below.trans ?_ (Below.mono (by assumption) (by first | exact Nat.le_refl _ | omega | (simp; done) | (simp; omega))))
  · clear h
    go_enter Try.func57, Try.ntmps57
    go_wp2
    go_ret
    refine ⟨rfl, ?_⟩
    repeat (first | exact Below.refl _ _ | assumption | refine Below.alloc ?_ (by first | exact Nat.le_refl _ | omega | (simp; done) | (simp; omega)) _ | refine Below.setCell ?_ (by first | exact Nat.le_refl _ | omega | (simp; done) | (simp; omega)) _ | refine Below.drew ?_ | refine below_draw ?_ | refine Below.trans ?_ (Below.mono (by assumption) (by first | exact Nat.le_refl _ | omega | (simp; done) | (simp; omega))))

theorem specCompound_int (n p q P : Int) (w : World) (hn : VA n) (hv : VR p q) (h0 : 0 ≤ P) (h1 : P ≤ 60) : Calls Try.prog 57 #[.int .i64 n, .agg #[.int .i64 p, .int .i64 q], .int .i64 P] w (RetInt (growF p q P.toNat n) w) := by
  obtain ⟨k, rfl⟩ := Int.eq_ofNat_of_zero_le h0
  rw [Int.toNat_natCast]
  exact specCompound_yes n p q k w hn hv (by omega)
set_option maxHeartbeats 1000000 in
theorem implCompound_yes (n p q : Int) (P : Nat) (w : World) (hn : VA n) (hv : VR p q) (hP : P ≤ 60) : Calls Try.prog 56 #[.int .i64 n, .agg #[.int .i64 p, .int .i64 q], .int .i64 P] w (RetInt (growF p q P n) w) := by
  obtain ⟨n1, n2⟩ := id hn
  obtain ⟨v1, v2, v3, v4⟩ := id hv
  go_enter Try.func56, Try.ntmps56
  go_wp2_with (first | (go_at_call 89; refine (implAmt_yes _ _ ⟨n1, n2⟩).mono ?_; rintro e w' ⟨rfl, rfl⟩))
  refine (implValidRate_yes p q _ hv).mono ?_
  rintro e w1 ⟨rfl, hb⟩
  have x1 := below_box hb (by simp) (box_new w _ _)
  have hz1 : w.heap.size < w1.heap.size := by have := hb.size; simp at this; omega
  have B1 := hide (((Below.refl _ _).alloc (Nat.le_refl _) _).trans (hb.mono (by simp)))
  clear hb
  obtain ⟨c0, c1, _, _⟩ := box2 x1
  have X1 := hide x1
  clear x1
  go_wp2_with fail
  refine (implInRange_yes _ _ _ _ (by omega) (by omega)).mono ?_
  rintro e w' ⟨rfl, rfl⟩
  go_wp2_with fail
  clear c0 c1
  go_loopw [0, 7] (fun a i wr => ∃ (k : Nat) (m : Int), k ≤ P ∧ i = .int .i64 k ∧ a = .int .i64 m ∧ 0 ≤ m ∧ m ≤ 1000000 ∧ growF p q (P - k) m = growF p q P n ∧ wr.heap[w.heap.size]? = some (.cells #[.int .i64 p, .int .i64 q] 52 (0, 0)) ∧ w.heap.size < wr.heap.size ∧ Below w.heap.size w wr)
    (fun _ i _ => P - (intOf i).toNat)
  case atStart => exact ⟨0, n, Nat.zero_le _, rfl, rfl, hn.1, hn.2, rfl, X1.out, hz1, B1.out⟩
  case round =>
    clear X1 B1 hz1
    obtain ⟨k, m, hk, rfl, rfl, hm0, hm1, hg, hx, hz, hB⟩ := hrel
    have hbd := reven_bd m p q hm0 v3 v4 v1
    have HB := hide hB
    have HX := hide hx
    have HG := hide hg
    clear hB hx hg
    by_cases hlt : k < P
    · obtain ⟨c0, c1, _, _⟩ := box2 HX.out
      have HS := hide (show growF p q (P - k) m = if 1000000 < m + reven m p q then -1 else growF p q (P - (k + 1)) (m + reven m p q) by
        rw [show P - k = (P - (k + 1)) + 1 by omega]; rfl)
      go_wp2_with fail
      refine (implRoundEven_yes m p q _ ⟨hm0, hm1⟩ hv).mono ?_
      rintro e w1 ⟨rfl, hb⟩
      have x1 := below_box hb hz HX.out
      have hz1 := Nat.lt_of_lt_of_le hz hb.size
      have B1 := hide (HB.out.trans (hb.mono HB.out.size))
      clear hb c0 c1 HX HB
      have X1 := hide x1
      clear x1
      obtain ⟨t, ht⟩ : ∃ t, t = reven m p q := ⟨_, rfl⟩
      rw [← ht] at hbd HS
      rw [← ht]
      clear ht
      by_cases hbig : 1000000 < m + t
      · have hfin := hide (show (-1 : Int) = growF p q P n by rw [← HG.out, HS.out, if_pos hbig])
        clear HS HG
        go_wp2
        go_ret
        exact ⟨ret_int hfin.out, B1.out⟩
      · have hfin := hide (show growF p q (P - (k + 1)) (m + t) = growF p q P n by rw [← HG.out, HS.out, if_neg hbig])
        clear HS HG
        go_wp2
        go_roundw
        case rel => exact ⟨k + 1, m + t, by omega, by go_num, rfl, by omega, by omega, hfin.out, X1.out, hz1, B1.out⟩
        case measure => simp [intOf]; omega
    · have hfin := hide (show m = growF p q P n by rw [← HG.out, show P - k = 0 by omega]; rfl)
      clear HG
      go_wp2
      go_ret
      exact ⟨ret_int hfin.out, HB.out⟩

theorem implCompound_no (n p q P : Int) (w : World) (h : ¬ (VA n ∧ VR p q ∧ 0 ≤ P ∧ P ≤ 60)) : Calls Try.prog 56 #[.int .i64 n, .agg #[.int .i64 p, .int .i64 q], .int .i64 P] w (RetInt (-1) w) := by
  by_cases n1 : 0 ≤ n
  · by_cases n2 : n ≤ 1000000
    · by_cases hv : VR p q
      · by_cases q1 : 0 ≤ P
        · have q2 : ¬ P ≤ 60 := fun x => h ⟨⟨n1, n2⟩, hv, q1, x⟩
          have qd : decide (P ≤ 60) = false := by simp; omega
          clear h q2
          go_enter Try.func56, Try.ntmps56
          go_wp2_with (first | (go_at_call 89; refine (implAmt_yes _ _ ⟨n1, n2⟩).mono ?_; rintro e w' ⟨rfl, rfl⟩))
          refine (implValidRate_yes p q _ hv).mono ?_
          rintro e w1 ⟨rfl, hb⟩
          have x1 := below_box hb (by simp) (box_new w _ _)
          have hz1 : w.heap.size < w1.heap.size := by have := hb.size; simp at this; omega
          have B1 := hide (((Below.refl _ _).alloc (Nat.le_refl _) _).trans (hb.mono (by simp)))
          clear hb
          obtain ⟨c0, c1, _, _⟩ := box2 x1
          go_wp2
          go_ret
          exact ⟨rfl, B1.out⟩
        · clear h
          go_enter Try.func56, Try.ntmps56
          go_wp2_with (first | (go_at_call 89; refine (implAmt_yes _ _ ⟨n1, n2⟩).mono ?_; rintro e w' ⟨rfl, rfl⟩))
          refine (implValidRate_yes p q _ hv).mono ?_
          rintro e w1 ⟨rfl, hb⟩
          have x1 := below_box hb (by simp) (box_new w _ _)
          have hz1 : w.heap.size < w1.heap.size := by have := hb.size; simp at this; omega
          have B1 := hide (((Below.refl _ _).alloc (Nat.le_refl _) _).trans (hb.mono (by simp)))
          clear hb
          obtain ⟨c0, c1, _, _⟩ := box2 x1
          go_wp2
          go_ret
          exact ⟨rfl, B1.out⟩
      · clear h
        go_enter Try.func56, Try.ntmps56
        go_wp2_with (first | (go_at_call 89; refine (implAmt_yes _ _ ⟨n1, n2⟩).mono ?_; rintro e w' ⟨rfl, rfl⟩))
        refine (implValidRate_no p q _ hv).mono ?_
        rintro e w1 ⟨rfl, hb⟩
        have x1 := below_box hb (by simp) (box_new w _ _)
        have hz1 : w.heap.size < w1.heap.size := by have := hb.size; simp at this; omega
        have B1 := hide (((Below.refl _ _).alloc (Nat.le_refl _) _).trans (hb.mono (by simp)))
        clear hb
        obtain ⟨c0, c1, _, _⟩ := box2 x1
        go_wp2
        go_ret
        exact ⟨rfl, B1.out⟩
    · clear h
      go_enter Try.func56, Try.ntmps56
      go_wp2
      go_ret
      refine ⟨rfl, ?_⟩
      repeat (first | exact Below.refl _ _ | assumption | refine Below.alloc ?_ (by first | exact Nat.le_refl _ | omega | (simp; done) | (simp; omega)) _ | refine Below.setCell ?_ (by first | exact Nat.le_refl _ | omega | (simp; done) | (simp; omega)) _ | refine Below.drew ?_ | refine below_draw ?_ | refine Below.trans ?_ (Below.mono (by assumption) (by first | exact Nat.le_refl _ | omega | (simp; done) | (simp; omega))))
  · clear h
    go_enter Try.func56, Try.ntmps56
    go_wp2
    go_ret
    refine ⟨rfl, ?_⟩
    repeat (first | exact Below.refl _ _ | assumption | refine Below.alloc ?_ (by first | exact Nat.le_refl _ | omega | (simp; done) | (simp; omega)) _ | refine Below.setCell ?_ (by first | exact Nat.le_refl _ | omega | (simp; done) | (simp; omega)) _ | refine Below.drew ?_ | refine below_draw ?_ | refine Below.trans ?_ (Below.mono (by assumption) (by first | exact Nat.le_refl _ | omega | (simp; done) | (simp; omega))))
theorem implCompound_int (n p q P : Int) (w : World) (hn : VA n) (hv : VR p q) (h0 : 0 ≤ P) (h1 : P ≤ 60) : Calls Try.prog 56 #[.int .i64 n, .agg #[.int .i64 p, .int .i64 q], .int .i64 P] w (RetInt (growF p q P.toNat n) w) := by
  obtain ⟨k, rfl⟩ := Int.eq_ofNat_of_zero_le h0
  rw [Int.toNat_natCast]
  exact implCompound_yes n p q k w hn hv (by omega)
end Go.Proofs.Ytjdfdikifiljjab
