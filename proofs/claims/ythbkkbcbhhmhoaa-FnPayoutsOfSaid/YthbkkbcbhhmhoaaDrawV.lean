/- The generator's bids; the arguments that the laws on winners and payouts draw. -/
import Derived.Test.YthbkkbcbhhmhoaaDrawO
import Derived.Test.YthbkkbcbhhmhoaaDrawD
namespace Go.Proofs.Ythbkkbcbhhmhoaa
open Go.ChangeShapes Go.WideShapes Go.ChangeAt Go.RowKit Go.Joins
set_option linter.unusedVariables false

theorem len_snocV (o : List Int) (x : Int) : o.length + 1 = (o ++ [x]).length := by simp
theorem np_bd {n p : Int} (h0 : 0 ≤ n) (h1 : n ≤ 12) (h2 : 0 ≤ p) (h3 : p ≤ 50) : 0 ≤ n * p ∧ n * p ≤ 600 :=
  ⟨Int.mul_nonneg h0 h2, Int.mul_le_mul h1 h3 h2 (by omega)⟩
set_option maxRecDepth 100000 in
set_option maxHeartbeats 1000000 in
theorem someBids_any (B g p n : Nat) (pay : Int) (w : World) (hr : Rdr B w g p) (hp : p < 9000) (hn : n ≤ 12) (hp0 : 0 ≤ pay) (hp1 : pay ≤ 50) :
    Calls Try.prog 67 #[.pointer (some ⟨g, 0, none⟩), .int .i64 n, .int .i64 pay] w (LstOut B g p 24 n n w) := by
  have hlt := hr.lt
  have hr0 := hr.alloc (.cells #[] 3)
  have hB0 := (But.refl g w).alloc (.cells #[] 3)
  have hq := np_bd (n := (n : Int)) (p := pay) (by omega) (by omega) hp0 hp1
  by_cases h5 : (n : Int) * pay < 5
  · have h20 : ¬ 20 < (n : Int) * pay := by omega
    go_enter Try.func67, Try.ntmps67
    go_wp2
    go_loopw [7, 8] (fun v i wr => ∃ (c : Nat) (s2 : Option Addr) (c2 : Nat) (o : List Int), c ≤ n ∧ i = .int .i64 c ∧ v = .slice s2 o.length c2 ∧ Hid (o.length = c) ∧ Row w.heap.size wr s2 c2 o ∧ Rdr B wr g (p + 2 * c) ∧ But g w wr) (fun _ i _ => n - (intOf i).toNat)
    case atStart => exact ⟨0, _, 0, [], Nat.zero_le _, rfl, rfl, (show ([] : List Int).length = 0 from rfl), Row.made _ _ (Nat.le_refl _), hr0, hB0⟩
    case round =>
      clear hr0 hB0
      obtain ⟨c, s2, c2, o, hc, rfl, rfl, HL, hR, hr1, hB1⟩ := hrel
      have ho : o.length ≤ c := by have := HL.out; omega
      have ho2 : c ≤ o.length := by have := HL.out; omega
      by_cases hlt2 : c < n
      · go_wp2_with fail
        refine (pick_pos B g _ ((n : Int) * pay + 1) _ hr1 (by omega) (by omega)).mono ?_
        rintro e w2 ⟨u, rfl, u0, u1, hr2, hb2, hs2⟩
        have hR2 := hR.but hb2 (by omega)
        have hB2 := hB1.trans hb2
        clear hs2
        go_wp2_with fail
        refine (one_at B g _ [u, -1, ((n : Int) * pay), 0, ((n : Int) * pay)] (-1) 600 _ _ _ _ rfl rfl hr2 (by omega) (by simp) (by simp) (by intro z hz; simp at hz; omega)).mono ?_
        rintro e w3 ⟨v, rfl, v0, v1, hr3, hb3, hs3⟩
        have hR3 := (hR2.ext ((Ext.refl _).alloc _)).but hb3 (by omega)
        have hB3 := (hB2.alloc _).trans hb3
        clear hs3
        go_wp2_with (first | (at_builtin; refine append_int rfl (.tmp 15) (.tmp 33) rfl w.heap.size w3 s2 c2 o v _ rfl rfl hR3 (by omega) hB3.size ?_; intro g4 c4 w4 R4 hb4))
        have hr4 := hr3.below hb4 (by omega)
        have hB4 := hB3.below hb4 (by omega)
        clear hb4
        go_wp2
        go_roundw
        case rel => exact ⟨c + 1, _, _, _, by omega, by go_num, by rw [len_snocV o v], (show (o ++ [v]).length = c + 1 by simp; omega), R4, hr4, hB4⟩
        case measure => simp [intOf]; omega
      · have hcn : c = n := by omega
        have hd : decide ((c : Int) < (n : Int)) = false := decide_eq_false (by omega)
        clear hlt2
        go_wp2
        go_ret
        exact ⟨s2, c2, o, rfl, hR, by omega, by omega, ⟨_, by omega, hr1⟩, hB1⟩
  · by_cases h20 : 20 < (n : Int) * pay
    · have h5' : 5 ≤ (n : Int) * pay := by omega
      go_enter Try.func67, Try.ntmps67
      go_wp2
      go_loopw [7, 8] (fun v i wr => ∃ (c : Nat) (s2 : Option Addr) (c2 : Nat) (o : List Int), c ≤ n ∧ i = .int .i64 c ∧ v = .slice s2 o.length c2 ∧ Hid (o.length = c) ∧ Row w.heap.size wr s2 c2 o ∧ Rdr B wr g (p + 2 * c) ∧ But g w wr) (fun _ i _ => n - (intOf i).toNat)
      case atStart => exact ⟨0, _, 0, [], Nat.zero_le _, rfl, rfl, (show ([] : List Int).length = 0 from rfl), Row.made _ _ (Nat.le_refl _), hr0, hB0⟩
      case round =>
        clear hr0 hB0
        obtain ⟨c, s2, c2, o, hc, rfl, rfl, HL, hR, hr1, hB1⟩ := hrel
        have ho : o.length ≤ c := by have := HL.out; omega
        have ho2 : c ≤ o.length := by have := HL.out; omega
        by_cases hlt2 : c < n
        · go_wp2_with fail
          refine (pick_pos B g _ ((n : Int) * pay + 1) _ hr1 (by omega) (by omega)).mono ?_
          rintro e w2 ⟨u, rfl, u0, u1, hr2, hb2, hs2⟩
          have hR2 := hR.but hb2 (by omega)
          have hB2 := hB1.trans hb2
          clear hs2
          go_wp2_with fail
          refine (one_at B g _ [u, -1, 5, 0, 20] (-1) 600 _ _ _ _ rfl rfl hr2 (by omega) (by simp) (by simp) (by intro z hz; simp at hz; omega)).mono ?_
          rintro e w3 ⟨v, rfl, v0, v1, hr3, hb3, hs3⟩
          have hR3 := (hR2.ext ((Ext.refl _).alloc _)).but hb3 (by omega)
          have hB3 := (hB2.alloc _).trans hb3
          clear hs3
          go_wp2_with (first | (at_builtin; refine append_int rfl (.tmp 15) (.tmp 33) rfl w.heap.size w3 s2 c2 o v _ rfl rfl hR3 (by omega) hB3.size ?_; intro g4 c4 w4 R4 hb4))
          have hr4 := hr3.below hb4 (by omega)
          have hB4 := hB3.below hb4 (by omega)
          clear hb4
          go_wp2
          go_roundw
          case rel => exact ⟨c + 1, _, _, _, by omega, by go_num, by rw [len_snocV o v], (show (o ++ [v]).length = c + 1 by simp; omega), R4, hr4, hB4⟩
          case measure => simp [intOf]; omega
        · have hcn : c = n := by omega
          have hd : decide ((c : Int) < (n : Int)) = false := decide_eq_false (by omega)
          clear hlt2
          go_wp2
          go_ret
          exact ⟨s2, c2, o, rfl, hR, by omega, by omega, ⟨_, by omega, hr1⟩, hB1⟩
    · have h5' : 5 ≤ (n : Int) * pay := by omega
      go_enter Try.func67, Try.ntmps67
      go_wp2
      go_loopw [7, 8] (fun v i wr => ∃ (c : Nat) (s2 : Option Addr) (c2 : Nat) (o : List Int), c ≤ n ∧ i = .int .i64 c ∧ v = .slice s2 o.length c2 ∧ Hid (o.length = c) ∧ Row w.heap.size wr s2 c2 o ∧ Rdr B wr g (p + 2 * c) ∧ But g w wr) (fun _ i _ => n - (intOf i).toNat)
      case atStart => exact ⟨0, _, 0, [], Nat.zero_le _, rfl, rfl, (show ([] : List Int).length = 0 from rfl), Row.made _ _ (Nat.le_refl _), hr0, hB0⟩
      case round =>
        clear hr0 hB0
        obtain ⟨c, s2, c2, o, hc, rfl, rfl, HL, hR, hr1, hB1⟩ := hrel
        have ho : o.length ≤ c := by have := HL.out; omega
        have ho2 : c ≤ o.length := by have := HL.out; omega
        by_cases hlt2 : c < n
        · go_wp2_with fail
          refine (pick_pos B g _ ((n : Int) * pay + 1) _ hr1 (by omega) (by omega)).mono ?_
          rintro e w2 ⟨u, rfl, u0, u1, hr2, hb2, hs2⟩
          have hR2 := hR.but hb2 (by omega)
          have hB2 := hB1.trans hb2
          clear hs2
          go_wp2_with fail
          refine (one_at B g _ [u, -1, 5, 0, ((n : Int) * pay)] (-1) 600 _ _ _ _ rfl rfl hr2 (by omega) (by simp) (by simp) (by intro z hz; simp at hz; omega)).mono ?_
          rintro e w3 ⟨v, rfl, v0, v1, hr3, hb3, hs3⟩
          have hR3 := (hR2.ext ((Ext.refl _).alloc _)).but hb3 (by omega)
          have hB3 := (hB2.alloc _).trans hb3
          clear hs3
          go_wp2_with (first | (at_builtin; refine append_int rfl (.tmp 15) (.tmp 33) rfl w.heap.size w3 s2 c2 o v _ rfl rfl hR3 (by omega) hB3.size ?_; intro g4 c4 w4 R4 hb4))
          have hr4 := hr3.below hb4 (by omega)
          have hB4 := hB3.below hb4 (by omega)
          clear hb4
          go_wp2
          go_roundw
          case rel => exact ⟨c + 1, _, _, _, by omega, by go_num, by rw [len_snocV o v], (show (o ++ [v]).length = c + 1 by simp; omega), R4, hr4, hB4⟩
          case measure => simp [intOf]; omega
        · have hcn : c = n := by omega
          have hd : decide ((c : Int) < (n : Int)) = false := decide_eq_false (by omega)
          clear hlt2
          go_wp2
          go_ret
          exact ⟨s2, c2, o, rfl, hR, by omega, by omega, ⟨_, by omega, hr1⟩, hB1⟩
def BMOut (w : World) (e : Ending) (w' : World) : Prop :=
  ∃ (sa : Option Addr) (cap : Nat) (l : List Int) (p : Int) (sm : Option Addr) (cm : Nat) (m : List Int), e = .returned (.tuple #[.slice sa l.length cap, .int .i64 p, .slice sm m.length cm]) ∧ Row w.heap.size w' sa cap l ∧ l.length ≤ 12 ∧ 0 ≤ p ∧ p ≤ 50 ∧ Row w.heap.size w' sm cm m ∧ m.length ≤ 13 ∧ Ext w w'
set_option maxHeartbeats 1000000 in
theorem dDrawWinnerOf (sa : Option Addr) (len cap : Nat) (w : World) (h : Code w sa len cap) (hl : len ≤ maxLen) :
    Calls Try.prog 44 #[.slice sa len cap] w (BMOut w) := by
  go_enter Try.func44, Try.ntmps44
  go_wp2_with fail
  refine (newReader_any _ _ _ _ h hl).mono ?_
  rintro e w1 ⟨rfl, hr1, hb1, hs1⟩
  have hE1 : Ext w w1 := Ext.of hb1
  have hz1 : w.heap.size ≤ w1.heap.size := hE1.size
  have hgl := hr1.lt
  have hB1 := But.of_below (g := w.heap.size) hE1
  clear hb1 hs1 h
  go_wp2_with fail
  refine (one_at _ _ _ [4, 3, 5, 1, 2, 12] (1) (12) _ _ _ w1 rfl rfl hr1 (by omega) (by simp) (by simp) (by intro z hz; simp at hz; omega)).mono ?_
  rintro e w2 ⟨n, rfl, n0, n1, hr2, hb2, hs2⟩
  have hb2 := ((But.refl w.heap.size w1).alloc _).trans hb2
  have hB2 := hB1.trans hb2
  clear hr1 hb2 hs2 hB1
  go_wp2_with fail
  refine (one_at _ _ _ [10, 50, 1, 0] (0) (50) _ _ _ w2 rfl rfl hr2 (by omega) (by simp) (by simp) (by intro z hz; simp at hz; omega)).mono ?_
  rintro e w3 ⟨p, rfl, p0, p1, hr3, hb3, hs3⟩
  have hb3 := ((But.refl w.heap.size w2).alloc _).trans hb3
  have hB3 := hB2.trans hb3
  clear hr2 hb3 hs3 hB2
  obtain ⟨n, rfl⟩ := Int.eq_ofNat_of_zero_le (show 0 ≤ n by omega)
  have hq := np_bd (n := (n : Int)) (p := p) (by omega) (by omega) p0 p1
  go_wp2_with fail
  refine (someBids_any _ _ _ n p _ hr3 (by omega) (by omega) p0 p1).mono ?_
  rintro e w4 ⟨sl, cl, l, rfl, Rl, l1, l2, ⟨q4, hq4, hr4⟩, hb4⟩
  have hB4 := hB3.trans hb4
  have hzl : w.heap.size ≤ w3.heap.size := hB3.size
  have hgl2 : w.heap.size < w3.heap.size := hr3.lt
  clear hr3 hb4 hB3
  go_wp2_with fail
  refine (pick_pos _ _ _ 16 _ hr4 (by omega) (by omega)).mono ?_
  rintro e w5 ⟨v, rfl, v0, v1, hr5, hb5, hs5⟩
  have hB5 := hB4.trans hb5
  have Rl := Rl.but hb5 hgl2
  clear hr4 hb5 hs5 hB4
  by_cases h0 : v = 0
  · subst h0
    obtain ⟨b, rfl, b1, b2, b3, b4⟩ := Rl.spot (by omega)
    have hz0 := b4 0 (by omega)
    obtain ⟨y, hyy⟩ : ∃ y, y = l.getD 0 0 := ⟨_, rfl⟩; rw [← hyy] at hz0
    clear hyy b3 b4
    have i5 : 0 < l.length := by omega
    go_wp2_with fail
    refine (one_at _ _ _ [-2, (n : Int) * p + 1] (-2) 601 _ _ _ _ rfl rfl hr5 (by omega) (by simp) (by simp) (by intro x hx; simp at hx; omega)).mono ?_
    rintro e w6 ⟨x, rfl, x0, x1, hr6, hb6, hs6⟩
    have hbg : b ≠ w.heap.size := by omega
    have hb' := ((But.refl w.heap.size w5).alloc _).trans hb6
    have hz4 : w6.cell? ⟨b, 0, none⟩ = some (.int .i64 y) := (hb'.cell b 0 b2 hbg).trans hz0
    have fz4 : w6.frozen? ⟨b, 0, none⟩ = false := (Rl.but hb' hgl2).spot (by omega) |>.elim (fun b' h => by
      obtain ⟨e, _, _, hf, _⟩ := h; cases e; exact hf 0)
    have R4 := (Rl.but hb' hgl2).store 0 x
    have hB4 := hB5.trans hb'
    have hr9 : Rdr _ (w6.setCell ⟨b, 0, none⟩ (.int .i64 x)) w.heap.size _ := hr6.below ((Below.refl w3.heap.size w6).setCell b1 _) hgl2
    have hB9 : But w.heap.size w (w6.setCell ⟨b, 0, none⟩ (.int .i64 x)) := hB4.below ((Below.refl w3.heap.size w6).setCell b1 _) hzl
    clear hz0 hr5 hr6 hb6 hb' hs6 hB5 hB4 Rl
    go_wp2_with fail
    refine (someMembers_any _ _ _ n _ hr9 (by omega) (by omega)).mono ?_
    rintro e wm ⟨sm, cm, m, rfl, Rm, m1, ⟨qq, _, hrq⟩, hbm⟩
    have hBm := hB9.trans hbm
    have Rl2 := R4.but hbm hgl2
    have hzm := hB9.size
    have EE := Ext.of (hBm.to_below (B := w.heap.size) (Nat.le_refl _) (Nat.le_refl _))
    go_wp2
    refine bodyPost_ret (v := .tuple #[.slice (some ⟨b, 0, none⟩) l.length cl, .int .i64 p, .slice sm m.length cm]) (by simp [results, Try.results44, go_sem]) rfl ?_
    exact ⟨some ⟨b, 0, none⟩, cl, l.set 0 x, p, sm, cm, m, by rw [List.length_set], Rl2.le hzl, by rw [List.length_set]; omega, p0, p1, Rm.le hzm, by omega, EE⟩
  · have hd0 : (v == 0) = false := by rw [beq_eq_false_iff_ne]; exact h0
    clear h0
    go_wp2_with fail
    refine (someMembers_any _ _ _ n _ hr5 (by omega) (by omega)).mono ?_
    rintro e wm ⟨sm, cm, m, rfl, Rm, m1, ⟨qq, _, hrq⟩, hbm⟩
    have hBm := hB5.trans hbm
    have Rl2 := Rl.but hbm hgl2
    have hzm := hB5.size
    have EE := Ext.of (hBm.to_below (B := w.heap.size) (Nat.le_refl _) (Nat.le_refl _))
    go_wp2
    refine bodyPost_ret (v := .tuple #[.slice sl l.length cl, .int .i64 p, .slice sm m.length cm]) (by simp [results, Try.results44, go_sem]) rfl ?_
    exact ⟨sl, cl, l, p, sm, cm, m, rfl, Rl2.le hzl, by omega, p0, p1, Rm.le hzm, by omega, EE⟩
theorem dDrawPayoutsOf (sa : Option Addr) (len cap : Nat) (w : World) (h : Code w sa len cap) (hl : len ≤ maxLen) :
    Calls Try.prog 46 #[.slice sa len cap] w (BMOut w) := by
  go_enter Try.func46, Try.ntmps46
  go_wp2_with fail
  refine (dDrawWinnerOf _ _ _ _ h hl).mono ?_
  rintro e w1 ⟨sb, cb, l, p, sm, cm, m, rfl, R, n, x1, x2, R2, n2, E⟩
  go_wp2
  refine bodyPost_ret (v := .tuple #[.slice sb l.length cb, .int .i64 p, .slice sm m.length cm]) (by simp [results, Try.results46, go_sem]) rfl ?_
  exact ⟨sb, cb, l, p, sm, cm, m, rfl, R, n, x1, x2, R2, n2, E⟩
end Go.Proofs.Ythbkkbcbhhmhoaa
