/- The generator's bids and tables of bids. -/
import Derived.Test.YthbkkbcbhhmhoabAppL
namespace Go.Proofs.Ythbkkbcbhhmhoab
open Go.ChangeShapes Go.WideShapes Go.ChangeAt Go.RowKit Go.Joins
set_option linter.unusedVariables false

/-- a list that was drawn -/
def LstOut (B g p k mn mx : Nat) (w : World) (e : Ending) (w' : World) : Prop :=
  ∃ (sa : Option Addr) (cap : Nat) (l : List Int), e = .returned (.slice sa l.length cap) ∧ Row w.heap.size w' sa cap l ∧ mn ≤ l.length ∧ l.length ≤ mx ∧ (∃ q, q ≤ p + k ∧ Rdr B w' g q) ∧ But g w w'

theorem len_snocV (o : List Int) (x : Int) : o.length + 1 = (o ++ [x]).length := by simp
theorem np_bd {n p : Int} (h0 : 0 ≤ n) (h1 : n ≤ 12) (h2 : 0 ≤ p) (h3 : p ≤ 50) : 0 ≤ n * p ∧ n * p ≤ 600 :=
  ⟨Int.mul_nonneg h0 h2, Int.mul_le_mul h1 h3 h2 (by omega)⟩
set_option maxRecDepth 100000 in
set_option maxHeartbeats 1000000 in
theorem someBids_any (B g p n : Nat) (pay : Int) (w : World) (hr : Rdr B w g p) (hp : p < 9000) (hn : n ≤ 12) (hp0 : 0 ≤ pay) (hp1 : pay ≤ 50) :
    Calls Try.prog 70 #[.pointer (some ⟨g, 0, none⟩), .int .i64 n, .int .i64 pay] w (LstOut B g p 24 n n w) := by
  have hlt := hr.lt
  have hr0 := hr.alloc (.cells #[] 3)
  have hB0 := (But.refl g w).alloc (.cells #[] 3)
  have hq := np_bd (n := (n : Int)) (p := pay) (by omega) (by omega) hp0 hp1
  by_cases h5 : (n : Int) * pay < 5
  · have h20 : ¬ 20 < (n : Int) * pay := by omega
    go_enter Try.func70, Try.ntmps70
    go_wp2
    go_loopw [7, 8] (fun v i wr => ∃ (c : Nat) (s2 : Option Addr) (c2 : Nat) (o : List Int), c ≤ n ∧ i = .int .i64 c ∧ v = .slice s2 o.length c2 ∧ Hid (o.length = c) ∧ Row w.heap.size wr s2 c2 o ∧ Rdr B wr g (p + 2 * c) ∧ But g w wr) (fun _ i _ => n - (intOf i).toNat)
    case atStart => exact ⟨0, _, 0, [], Nat.zero_le _, rfl, rfl, (show ([] : List Int).length = 0 from rfl), Row.made _ _ (Nat.le_refl _), hr0, hB0⟩
    case round =>
      clear hr0 hB0
      obtain ⟨c, s2, c2, o, hc, rfl, rfl, HL, hR, hr1, hB1⟩ := hrel
      have ho : o.length ≤ c := by have := HL.out; omega
      have ho2 : c ≤ o.length := by have := HL.out; omega
      by_cases hlt2 : c < n
      · go_wp2_with fail
        refine (pick_pos B g _ ((n : Int) * pay + 1) _ hr1 (by omega) (by omega)).mono ?_
        rintro e w2 ⟨u, rfl, u0, u1, hr2, hb2, hs2⟩
        have hR2 := hR.but hb2 (by omega)
        have hB2 := hB1.trans hb2
        clear hs2
        go_wp2_with fail
        refine (one_at B g _ [u, -1, ((n : Int) * pay), 0, ((n : Int) * pay)] (-1) 600 _ _ _ _ rfl rfl hr2 (by omega) (by simp) (by simp) (by intro z hz; simp at hz; omega)).mono ?_
        rintro e w3 ⟨v, rfl, v0, v1, hr3, hb3, hs3⟩
        have hR3 := (hR2.ext ((Ext.refl _).alloc _)).but hb3 (by omega)
        have hB3 := (hB2.alloc _).trans hb3
        clear hs3
        go_wp2_with (first | (at_builtin; refine append_int rfl (.tmp 15) (.tmp 33) rfl w.heap.size w3 s2 c2 o v _ rfl rfl hR3 (by omega) hB3.size ?_; intro g4 c4 w4 R4 hb4))
        have hr4 := hr3.below hb4 (by omega)
        have hB4 := hB3.below hb4 (by omega)
        clear hb4
        go_wp2
        go_roundw
        case rel => exact ⟨c + 1, _, _, _, by omega, by go_num, by rw [len_snocV o v], (show (o ++ [v]).length = c + 1 by simp; omega), R4, hr4, hB4⟩
        case measure => simp [intOf]; omega
      · have hcn : c = n := by omega
        have hd : decide ((c : Int) < (n : Int)) = false := decide_eq_false (by omega)
        clear hlt2
        go_wp2
        go_ret
        exact ⟨s2, c2, o, rfl, hR, by omega, by omega, ⟨_, by omega, hr1⟩, hB1⟩
  · by_cases h20 : 20 < (n : Int) * pay
    · have h5' : 5 ≤ (n : Int) * pay := by omega
      go_enter Try.func70, Try.ntmps70
      go_wp2
      go_loopw [7, 8] (fun v i wr => ∃ (c : Nat) (s2 : Option Addr) (c2 : Nat) (o : List Int), c ≤ n ∧ i = .int .i64 c ∧ v = .slice s2 o.length c2 ∧ Hid (o.length = c) ∧ Row w.heap.size wr s2 c2 o ∧ Rdr B wr g (p + 2 * c) ∧ But g w wr) (fun _ i _ => n - (intOf i).toNat)
      case atStart => exact ⟨0, _, 0, [], Nat.zero_le _, rfl, rfl, (show ([] : List Int).length = 0 from rfl), Row.made _ _ (Nat.le_refl _), hr0, hB0⟩
      case round =>
        clear hr0 hB0
        obtain ⟨c, s2, c2, o, hc, rfl, rfl, HL, hR, hr1, hB1⟩ := hrel
        have ho : o.length ≤ c := by have := HL.out; omega
        have ho2 : c ≤ o.length := by have := HL.out; omega
        by_cases hlt2 : c < n
        · go_wp2_with fail
          refine (pick_pos B g _ ((n : Int) * pay + 1) _ hr1 (by omega) (by omega)).mono ?_
          rintro e w2 ⟨u, rfl, u0, u1, hr2, hb2, hs2⟩
          have hR2 := hR.but hb2 (by omega)
          have hB2 := hB1.trans hb2
          clear hs2
          go_wp2_with fail
          refine (one_at B g _ [u, -1, 5, 0, 20] (-1) 600 _ _ _ _ rfl rfl hr2 (by omega) (by simp) (by simp) (by intro z hz; simp at hz; omega)).mono ?_
          rintro e w3 ⟨v, rfl, v0, v1, hr3, hb3, hs3⟩
          have hR3 := (hR2.ext ((Ext.refl _).alloc _)).but hb3 (by omega)
          have hB3 := (hB2.alloc _).trans hb3
          clear hs3
          go_wp2_with (first | (at_builtin; refine append_int rfl (.tmp 15) (.tmp 33) rfl w.heap.size w3 s2 c2 o v _ rfl rfl hR3 (by omega) hB3.size ?_; intro g4 c4 w4 R4 hb4))
          have hr4 := hr3.below hb4 (by omega)
          have hB4 := hB3.below hb4 (by omega)
          clear hb4
          go_wp2
          go_roundw
          case rel => exact ⟨c + 1, _, _, _, by omega, by go_num, by rw [len_snocV o v], (show (o ++ [v]).length = c + 1 by simp; omega), R4, hr4, hB4⟩
          case measure => simp [intOf]; omega
        · have hcn : c = n := by omega
          have hd : decide ((c : Int) < (n : Int)) = false := decide_eq_false (by omega)
          clear hlt2
          go_wp2
          go_ret
          exact ⟨s2, c2, o, rfl, hR, by omega, by omega, ⟨_, by omega, hr1⟩, hB1⟩
    · have h5' : 5 ≤ (n : Int) * pay := by omega
      go_enter Try.func70, Try.ntmps70
      go_wp2
      go_loopw [7, 8] (fun v i wr => ∃ (c : Nat) (s2 : Option Addr) (c2 : Nat) (o : List Int), c ≤ n ∧ i = .int .i64 c ∧ v = .slice s2 o.length c2 ∧ Hid (o.length = c) ∧ Row w.heap.size wr s2 c2 o ∧ Rdr B wr g (p + 2 * c) ∧ But g w wr) (fun _ i _ => n - (intOf i).toNat)
      case atStart => exact ⟨0, _, 0, [], Nat.zero_le _, rfl, rfl, (show ([] : List Int).length = 0 from rfl), Row.made _ _ (Nat.le_refl _), hr0, hB0⟩
      case round =>
        clear hr0 hB0
        obtain ⟨c, s2, c2, o, hc, rfl, rfl, HL, hR, hr1, hB1⟩ := hrel
        have ho : o.length ≤ c := by have := HL.out; omega
        have ho2 : c ≤ o.length := by have := HL.out; omega
        by_cases hlt2 : c < n
        · go_wp2_with fail
          refine (pick_pos B g _ ((n : Int) * pay + 1) _ hr1 (by omega) (by omega)).mono ?_
          rintro e w2 ⟨u, rfl, u0, u1, hr2, hb2, hs2⟩
          have hR2 := hR.but hb2 (by omega)
          have hB2 := hB1.trans hb2
          clear hs2
          go_wp2_with fail
          refine (one_at B g _ [u, -1, 5, 0, ((n : Int) * pay)] (-1) 600 _ _ _ _ rfl rfl hr2 (by omega) (by simp) (by simp) (by intro z hz; simp at hz; omega)).mono ?_
          rintro e w3 ⟨v, rfl, v0, v1, hr3, hb3, hs3⟩
          have hR3 := (hR2.ext ((Ext.refl _).alloc _)).but hb3 (by omega)
          have hB3 := (hB2.alloc _).trans hb3
          clear hs3
          go_wp2_with (first | (at_builtin; refine append_int rfl (.tmp 15) (.tmp 33) rfl w.heap.size w3 s2 c2 o v _ rfl rfl hR3 (by omega) hB3.size ?_; intro g4 c4 w4 R4 hb4))
          have hr4 := hr3.below hb4 (by omega)
          have hB4 := hB3.below hb4 (by omega)
          clear hb4
          go_wp2
          go_roundw
          case rel => exact ⟨c + 1, _, _, _, by omega, by go_num, by rw [len_snocV o v], (show (o ++ [v]).length = c + 1 by simp; omega), R4, hr4, hB4⟩
          case measure => simp [intOf]; omega
        · have hcn : c = n := by omega
          have hd : decide ((c : Int) < (n : Int)) = false := decide_eq_false (by omega)
          clear hlt2
          go_wp2
          go_ret
          exact ⟨s2, c2, o, rfl, hR, by omega, by omega, ⟨_, by omega, hr1⟩, hB1⟩
def TBOut (w : World) (e : Ending) (w' : World) : Prop :=
  ∃ (sa : Option Addr) (cap : Nat) (ll : List (List Int)) (hs : Heads) (p : Int), e = .returned (.tuple #[.slice sa ll.length cap, .int .i64 p]) ∧ Mat w.heap.size w' sa cap ll hs ∧ ll.length ≤ 7 ∧ (∀ i, i < ll.length → (ll.getD i []).length ≤ 6) ∧ 0 ≤ p ∧ p ≤ 50 ∧ Ext w w'
theorem len_snocT (o : List (List Int)) (x : List Int) : o.length + 1 = (o ++ [x]).length := by simp
theorem getD_snoc {o : List (List Int)} {x : List Int} {m : Nat} (h : ∀ i, i < o.length → (o.getD i []).length ≤ m) (hx : x.length ≤ m) : ∀ i, i < (o ++ [x]).length → ((o ++ [x]).getD i []).length ≤ m := fun i hi => by
  rw [List.length_append, List.length_singleton] at hi
  by_cases e : i = o.length
  · rw [e, getD_snoc_eq]; exact hx
  · rw [getD_snoc_lt _ _ _ (by omega)]; exact h i (by omega)
set_option maxRecDepth 100000 in
set_option maxHeartbeats 1000000 in
theorem dDrawBidOrder (sa : Option Addr) (len cap : Nat) (w : World) (h : Code w sa len cap) (hl : len ≤ maxLen) :
    Calls Try.prog 44 #[.slice sa len cap] w (TBOut w) := by
  go_enter Try.func44, Try.ntmps44
  go_wp2_with fail
  refine (newReader_any _ _ _ _ h hl).mono ?_
  rintro e w1 ⟨rfl, hr1, hb1, hs1⟩
  have hE1 : Ext w w1 := Ext.of hb1
  have hz1 : w.heap.size ≤ w1.heap.size := hE1.size
  have hgl := hr1.lt
  have hB1 := But.of_below (g := w.heap.size) hE1
  clear hb1 hs1 h
  go_wp2_with fail
  refine (one_at _ _ _ [4, 3, 5, 1, 2, 6] 1 6 _ _ _ w1 rfl rfl hr1 (by omega) (by simp) (by simp) (by simp)).mono ?_
  rintro e w2 ⟨n, rfl, n0, n1, hr2, hb2, hs2⟩
  obtain ⟨n, rfl⟩ := Int.eq_ofNat_of_zero_le (show 0 ≤ n by omega)
  have hB2 := hB1.trans (((But.refl w.heap.size w1).alloc _).trans hb2)
  clear hr1 hb2 hs2 hB1
  go_wp2_with fail
  refine (one_at _ _ _ [10, 50, 1, 0] 0 50 _ _ _ w2 rfl rfl hr2 (by omega) (by simp) (by simp) (by simp)).mono ?_
  rintro e w3 ⟨p, rfl, p0, p1, hr3, hb3, hs3⟩
  have hB3 := hB2.trans (((But.refl w.heap.size w2).alloc _).trans hb3)
  have hz3 := hB3.size
  have hg3 := hr3.lt
  have hM3 := Mat.made (w.heap.size + 1) w3 (by omega)
  have hr4 := hr3.alloc (.cells #[] 24)
  have hB4 := hB3.alloc (.cells #[] 24)
  clear hr2 hb3 hs3 hB2 hr3 hB3
  go_wp2
  go_loopw [7, 8] (fun v i wr => ∃ (c q : Nat) (s2 : Option Addr) (c2 : Nat) (ll : List (List Int)) (hs : Heads), c ≤ n ∧ i = .int .i64 c ∧ v = .slice s2 ll.length c2 ∧ ll.length ≤ c ∧ Hid (∀ i, i < ll.length → (ll.getD i []).length ≤ 6) ∧ Mat (w.heap.size + 1) wr s2 c2 ll hs ∧ q ≤ 2 + 24 * c ∧ Rdr w.heap.size wr w.heap.size q ∧ But w.heap.size w wr) (fun _ i _ => n - (intOf i).toNat)
  case atStart => exact ⟨0, _, _, 0, [], [], Nat.zero_le _, rfl, rfl, by simp, (show ∀ i, i < ([] : List (List Int)).length → _ from fun i hi => absurd hi (Nat.not_lt_zero _)), hM3, by omega, hr4, hB4⟩
  case round =>
    clear hM3 hr4 hB4
    obtain ⟨c, q, s2, c2, ll, hs, hc, rfl, rfl, hll, HL, hM, hq, hr, hB⟩ := hrel
    have hgr := hr.lt
    by_cases hlt : c < n
    · have hMlt := hM.lt
      go_wp2_with fail
      refine (someBids_any _ _ q n p _ hr (by omega) (by omega) p0 p1).mono ?_
      rintro e w5 ⟨s5, c5, l5, rfl, R5, l51, l52, ⟨q5, hq5, hr5⟩, hb5⟩
      have hM5 := hM.but hb5 (Nat.lt_succ_self _)
      have hB5 := hB.trans hb5
      have hz5 := hb5.size
      have HL2 := hide (getD_snoc (x := l5) HL.out (by omega))
      clear hb5
      go_wp2_with (first | (at_builtin; refine append_rowB (s := .tmp 23) (x := .tmp 28) rfl rfl rfl rfl rfl hM5 hMlt R5 (by omega) (by omega) hz5 ?_; intro g4 c4 w4 M4 hb4))
      have hr6 := hr5.below hb4 (Nat.lt_succ_self _)
      have hB6 := hB5.below hb4 (by omega)
      clear hb4 hM5 R5
      go_wp2
      go_roundw
      case rel => exact ⟨c + 1, q5, some ⟨g4, 0, none⟩, c4, ll ++ [l5], _, by omega, by go_num, by rw [len_snocT ll l5], by rw [List.length_append]; simp; omega, HL2, M4, by omega, hr6, hB6⟩
      case measure => simp [intOf]; omega
    · have hd : decide ((c : Int) < (n : Int)) = false := decide_eq_false (by omega)
      go_wp2_with fail
      refine (pick_pos _ _ q 16 _ hr (by omega) (by omega)).mono ?_
      rintro e w5 ⟨v, rfl, v0, v1, hr5, hb5, hs5⟩
      have hM5 := hM.but hb5 (Nat.lt_succ_self _)
      have hB5 := hB.trans hb5
      clear hb5 hs5
      by_cases hv : v = 0
      · subst hv
        have hMlt := hM5.lt
        have hg5 := hr5.lt
        have R1 : Row w5.heap.size (w5.alloc (.cells #[.int .i64 1] 3)) (some ⟨w5.heap.size, 0, none⟩) 1 [1] := (Arr.new w5 [1]).row (Nat.le_refl _) (by simp)
        have hM6 := hM5.ext ((Ext.refl w5).alloc (.cells #[.int .i64 1] 3))
        have hB6 := hB5.alloc (.cells #[.int .i64 1] 3)
        have hz6 : w5.heap.size ≤ (w5.alloc (.cells #[.int .i64 1] 3)).heap.size := by simp
        have HL2 := hide (getD_snoc (x := [1]) HL.out (by simp))
        go_wp2_with (first | (at_builtin; refine append_rowB (s := .tmp 33) (x := .tmp 35) rfl rfl rfl (show Value.slice (some ⟨w5.heap.size + 1, 0, none⟩) 1 1 = _ by simp) rfl hM6 hMlt R1 (by omega) (by omega) hz6 ?_; intro g4 c4 w4 M4 hb4))
        have hB7 := hB6.below hb4 (by omega)
        have EE := Ext.of (hB7.to_below (B := w.heap.size) (Nat.le_refl _) (Nat.le_refl _))
        clear hb4
        go_wp2
        refine bodyPost_ret (v := .tuple #[.slice (some ⟨g4, 0, none⟩) (ll.length + 1) c4, .int .i64 p]) (by simp [results, Try.results44, go_sem]) rfl ?_
        exact ⟨some ⟨g4, 0, none⟩, c4, ll ++ [[1]], _, p, by rw [len_snocT ll [1]], M4.le (by omega), by rw [List.length_append]; simp; omega, HL2.out, p0, p1, EE⟩
      · have hd2 : (v == 0) = false := by rw [beq_eq_false_iff_ne]; exact hv
        have EE := Ext.of (hB5.to_below (B := w.heap.size) (Nat.le_refl _) (Nat.le_refl _))
        go_wp2
        refine bodyPost_ret (v := .tuple #[.slice s2 ll.length c2, .int .i64 p]) (by simp [results, Try.results44, go_sem]) rfl ?_
        exact ⟨s2, c2, ll, hs, p, rfl, hM5.le (by omega), by omega, HL.out, p0, p1, EE⟩
theorem dDrawBidNets (sa : Option Addr) (len cap : Nat) (w : World) (h : Code w sa len cap) (hl : len ≤ maxLen) :
    Calls Try.prog 47 #[.slice sa len cap] w (TBOut w) := by
  go_enter Try.func47, Try.ntmps47
  go_wp2_with fail
  refine (dDrawBidOrder _ _ _ _ h hl).mono ?_
  rintro e w1 ⟨sb, cb, ll, hs, p, rfl, M, n, x1, x2, x3, E⟩
  go_wp2
  refine bodyPost_ret (v := .tuple #[.slice sb ll.length cb, .int .i64 p]) (by simp [results, Try.results47, go_sem]) rfl ?_
  exact ⟨sb, cb, ll, hs, p, rfl, M, n, x1, x2, x3, E⟩
end Go.Proofs.Ythbkkbcbhhmhoab
