/- Chapter 3: winners and payouts in plain numbers, and the walks of their laws, at drawn arguments. -/
import Derived.Test.YthbkkbcbhhmhoaaDrawV
import Derived.Test.YthbkkbcbhhmhoaaLawO2
import Derived.Test.YthbkkbcbhhmhoaaBid3
namespace Go.Proofs.Ythbkkbcbhhmhoaa
open Go.ChangeShapes Go.WideShapes Go.ChangeAt Go.RowKit Go.Joins Go.Sort
set_option linter.unusedVariables false

theorem win_spec (l : List Int) (d : Nat → Bool) : ∀ n k : Nat, win l d n = (k : Int) → k < n ∧ d k = false ∧ ∀ i, i < n → d i = false → l.getD i 0 ≤ l.getD k 0 ∧ (i < k → l.getD i 0 < l.getD k 0) := by
  intro n
  induction n with
  | zero => intro k h; simp [win] at h
  | succ n ih =>
    intro k h
    by_cases hd : d n = false ∧ (win l d n < 0 ∨ l.getD (win l d n).toNat 0 < l.getD n 0)
    · rw [win_yes hd.1 hd.2] at h
      obtain rfl : n = k := by omega
      refine ⟨Nat.lt_succ_self _, hd.1, fun i hi hdi => ?_⟩
      by_cases e : i = n
      · subst e; exact ⟨Int.le_refl _, fun h => absurd h (Nat.lt_irrefl _)⟩
      · by_cases h0 : win l d n < 0
        · have := (win_neg l d n).1 h0 i (by omega)
          rw [this] at hdi; cases hdi
        · obtain ⟨b, hb⟩ := Int.eq_ofNat_of_zero_le (show 0 ≤ win l d n by omega)
          have h2 := (ih b hb).2.2 i (by omega) hdi
          have h3 := hd.2
          rw [hb, Int.toNat_natCast] at h3
          have h4 : l.getD b 0 < l.getD n 0 := by rcases h3 with h3 | h3 <;> omega
          exact ⟨by omega, fun _ => by omega⟩
    · rw [win_no hd] at h
      obtain ⟨h1, h2, h3⟩ := ih k h
      refine ⟨by omega, h2, fun i hi hdi => ?_⟩
      by_cases e : i = n
      · subst e
        have h4 : ¬ (win l d i < 0 ∨ l.getD (win l d i).toNat 0 < l.getD i 0) := fun h => hd ⟨hdi, h⟩
        rw [h, Int.toNat_natCast] at h4
        exact ⟨by omega, fun h => by omega⟩
      · exact h3 i (by omega) hdi
theorem sgK_pay (n : Nat) (q : Int) (k : Nat) (g : Int) (hk : k < n) : ∀ i, i ≤ n → sgK (payT n q k g) i = (if k < i then q - g else 0) + sumP g ((n : Int) - 1) (if i ≤ k then i else i - 1) := by
  intro i
  induction i with
  | zero => intro _; simp [sgK, sumP]
  | succ i ih =>
    intro hi
    show sgK _ i + (payT n q k g).getD i 0 = _
    rw [ih (by omega), payT_at _ _ _ _ _ (by omega)]
    by_cases e : i = k
    · subst e
      rw [if_neg (Nat.lt_irrefl _), if_pos (Nat.le_refl _), if_pos rfl, if_pos (Nat.lt_succ_self _), if_neg (by omega), Nat.add_sub_cancel]; omega
    · rw [if_neg e]
      by_cases h : i < k
      · rw [if_neg (by omega), if_pos (by omega), if_pos h, if_neg (by omega), if_pos (by omega)]
        show 0 + sumP g _ i + prt g _ i = 0 + (sumP g _ i + prt g _ i); omega
      · obtain ⟨j, rfl⟩ : ∃ j, i = j + 1 := ⟨i - 1, by omega⟩
        rw [if_pos (by omega), if_neg (by omega), if_neg h, if_pos (by omega), if_neg (by omega), Nat.add_sub_cancel]
        show q - g + sumP g _ j + prt g _ j = q - g + (sumP g _ j + prt g _ j); omega
theorem pay_sum {l : List Int} {p : Int} {m : List Int} {k : Nat} (h : wnr l p m = (k : Int)) : sgK (payB l p m) l.length = (l.length : Int) * p := by
  have hk : k < l.length := by have := (wnr_lt l p m).2 (by omega); omega
  rw [payB_yes h, sgK_pay _ _ _ _ hk _ (Nat.le_refl _), if_pos hk, if_neg (by omega)]
  by_cases h1 : l.length = 1
  · have hg : gift l k = 0 := if_pos h1
    rw [hg, h1]; simp [sumP]
  · have := sumP_full (g := gift l k) (d := (l.length : Int) - 1) (by omega)
    rw [show ((l.length : Int) - 1).toNat = l.length - 1 by omega] at this
    rw [this]; omega
theorem pay_bd {l : List Int} {p : Int} {m : List Int} (hp : p ≤ 50) (i : Nat) (hi : i < (payB l p m).length) : -120000 ≤ (payB l p m).getD i 0 ∧ (payB l p m).getD i 0 ≤ 120000 := by
  by_cases h : 0 ≤ wnr l p m
  · obtain ⟨k, hk⟩ := Int.eq_ofNat_of_zero_le h
    obtain ⟨hok, _⟩ := wnr_ok h
    have hkl : k < l.length := by have := (wnr_lt l p m).2 h; omega
    obtain ⟨g0, g1, _⟩ := gift_bd hok hkl
    have hq := np_bd (n := (l.length : Int)) (p := p) (by omega) hok.1.1.2 hok.1.2.1 hp
    rw [payB_yes hk] at hi ⊢
    rw [payT_len] at hi
    rw [payT_at _ _ _ _ _ hi]
    by_cases e : i = k
    · rw [if_pos e]; omega
    · rw [if_neg e]
      have := prt_bd (g := gift l k) (d := (l.length : Int) - 1) g0 (by omega) (if i < k then i else i - 1)
      omega
  · rw [payB_no (by omega)] at hi; simp at hi
set_option maxHeartbeats 400000 in
theorem isInO (sa : Option Addr) (cap n : Nat) (l : List Int) (x : Int) (w : World) (h : Lst w sa l) (hn : l.length = n) (hl : n ≤ 2000000) :
    Calls Try.prog 45 #[.slice sa n cap, .int .i64 x] w (Same (.bool (decide (x ∈ l))) w) := by
  subst hn
  have H := hide h; clear h
  go_enter Try.func45, Try.ntmps45
  go_wp2
  go_loop [5] (fun i => ∃ c : Nat, c ≤ l.length ∧ i = .int .i64 c ∧ Hid (x ∉ l.take c)) (fun i => l.length - (intOf i).toNat)
  case atStart => exact ⟨0, Nat.zero_le _, rfl, show _ ∉ _ by simp⟩
  case round =>
    obtain ⟨c, hc, rfl, HN⟩ := hrel
    by_cases hlt : c < l.length
    · obtain ⟨g, off, rfl, hg, c1⟩ := H.out.at hlt
      by_cases he : l.getD c 0 = x
      · have HF := hide (show true = decide (x ∈ l) from (decide_eq_true (by rw [← he]; exact getD_mem hlt)).symm)
        rw [he] at c1
        clear he
        go_wp2
        go_ret
        exact Same.bool HF.out
      · have HN2 := hide (show x ∉ l.take (c + 1) by
          rw [take_snoc l c hlt, List.mem_append, List.mem_singleton]
          rintro (h | h)
          · exact HN.out h
          · exact he h.symm)
        obtain ⟨y, hy⟩ : ∃ y, y = l.getD c 0 := ⟨_, rfl⟩; rw [← hy] at c1 he
        have hd : ((y : Int) == x) = false := by rw [beq_eq_false_iff_ne]; exact he
        clear hy he
        go_wp2
        go_round
        case rel => exact ⟨c + 1, by omega, by go_num, HN2⟩
        case measure => simp [intOf]; omega
    · have HF := hide (show false = decide (x ∈ l) by
        have := HN.out; rw [List.take_of_length_le (by omega)] at this; exact (decide_eq_false this).symm)
      go_wp2
      go_ret
      exact Same.bool HF.out
set_option maxHeartbeats 1000000 in
theorem walkFnWinnerOf (w : World) (sa : Option Addr) (len cap : Nat) (h : Code w sa len cap) (hl : len ≤ maxLen) :
    Calls Try.prog 15 #[.slice sa len cap] w fun e w' => e = .returned (.bool true) ∧ Below w.heap.size w w' := by
  have hl' := hl
  unfold maxLen at hl'
  by_cases hbig : 1048576 < len
  · clear h hl
    go_enter Try.func15, Try.ntmps15
    go_wp2
    go_ret
    exact ⟨rfl, Below.refl _ _⟩
  · go_enter Try.func15, Try.ntmps15
    go_wp2_with fail
    refine (dDrawWinnerOf sa len cap w h hl).mono ?_
    rintro e w1 ⟨sb, cb, l, p, sm, cm, m, rfl, hR, l12, p0, p1, hM, m13, E1⟩
    have HL := hide hR.lst
    have HM := hide hM.lst
    have hcap := hR.cap
    have hcm := hM.cap
    clear h hl hl' hbig hR hM
    have HP1 := hide (fun w2 (e : Ext w1 w2) => implWinner sb cb l p sm cm m w2 (HL.out.ext e) (by omega) hcap (HM.out.ext e) (by omega) hcm)
    have HP2 := hide (fun w2 (e : Ext w1 w2) => specWinner sb cb l p sm cm m w2 (HL.out.ext e) (by omega) hcap (HM.out.ext e) (by omega) hcm)
    by_cases h0 : 0 ≤ wnr l p m
    · obtain ⟨k, hk⟩ := Int.eq_ofNat_of_zero_le h0
      have hwok := wnr_ok h0
      have hs := win_spec l (inD m) l.length k (by rw [← wnr_yes hwok]; exact hk)
      obtain ⟨hkl, hdk, hall⟩ := hs
      have HD := hide hdk
      have HA := hide hall
      have HI := hide (fun (x : Int) (w2 : World) (e : Ext w1 w2) => isInO sm cm m.length m x w2 (HM.out.ext e) rfl (by omega))
      rw [hk] at HP1 HP2
      clear h0 hk hwok hdk hall
      go_wp2_with fail; refine (HP1.out _ (Ext.refl _)).mono ?_; rintro e w' ⟨rfl, rfl⟩
      go_wp2_with fail; refine (HP2.out _ (Ext.refl _)).mono ?_; rintro e w2 ⟨rfl, E2⟩
      go_wp2
      go_loopw [7] (fun i wr => ∃ c : Nat, c ≤ l.length ∧ i = .int .i64 c ∧ Ext w1 wr) (fun i _ => l.length - (intOf i).toNat)
      case atStart => exact ⟨0, Nat.zero_le _, rfl, E2⟩
      case round =>
        obtain ⟨c, hc, rfl, hE⟩ := hrel
        by_cases hlt : c < l.length
        · obtain ⟨g, off, rfl, hg, e1⟩ := (HL.out.ext hE).at hlt
          obtain ⟨g', off', e, _, e2⟩ := (HL.out.ext hE).at hkl
          cases e
          have hA := HA.out c hlt
          have HQ := hide (fun (dd : Nat) (os : Array Obj) => Same.quiet (HI.out (c : Int) (grow (redrawn wr dd) os) (hE.trans (below_regrown _ _ _))))
          by_cases hd : inD m c = true
          · have hd2 : decide ((c : Int) ∈ m) = true := hd
            have HQ2 := hide (fun (dd : Nat) (os : Array Obj) => Same.quiet (Same.eqB (HI.out (c : Int) (grow (redrawn wr dd) os) (hE.trans (below_regrown _ _ _))) hd2))
            clear HQ hd hd2 hA e1 e2
            go_wp2
            refine wp_region_quiet_below (by kernel_rfl) (by kernel_rfl) ?_
            repeat (go_big_quiet_step ((first | (go_at_call 45; exact HQ2.out _ _))))
            refine wpQuiet_nil ?_; intro w9 hq; have E9 := Ext.class hq; clear hq
            go_wp2
            go_roundw
            case rel => exact ⟨c + 1, by omega, by go_num, hE.trans E9⟩
            case measure => simp [intOf]; omega
          · rw [Bool.not_eq_true] at hd
            have hd2 : decide ((c : Int) ∈ m) = false := hd
            have HQ2 := hide (fun (dd : Nat) (os : Array Obj) => Same.quiet (Same.eqB (HI.out (c : Int) (grow (redrawn wr dd) os) (hE.trans (below_regrown _ _ _))) hd2))
            obtain ⟨hle, hlt3⟩ := hA hd
            obtain ⟨x, hx⟩ : ∃ x, x = l.getD c 0 := ⟨_, rfl⟩; rw [← hx] at e1 hle hlt3
            obtain ⟨y, hy⟩ : ∃ y, y = l.getD k 0 := ⟨_, rfl⟩; rw [← hy] at e2 hle hlt3
            have q1 := cell_regrown e1
            have q2 := cell_regrown e2
            have hd3 : decide (y < x) = false := decide_eq_false (by omega)
            clear HQ hd hd2 hx hy
            by_cases hck : c < k
            · have hxy := hlt3 hck
              have hd4 : decide ((c : Int) < (k : Int)) = true := decide_eq_true (by omega)
              have hd5 : ((x : Int) == y) = false := by rw [beq_eq_false_iff_ne]; omega
              clear hlt3
              go_wp2
              refine wp_region_quiet_below (by kernel_rfl) (by kernel_rfl) ?_
              repeat (go_big_quiet_step ((first | (go_at_call 45; exact HQ2.out _ _))))
              refine wpQuiet_nil ?_; intro w9 hq; have E9 := Ext.class hq; clear hq
              go_wp2
              go_roundw
              case rel => exact ⟨c + 1, by omega, by go_num, hE.trans E9⟩
              case measure => simp [intOf]; omega
            · have hd4 : decide ((c : Int) < (k : Int)) = false := decide_eq_false (by omega)
              clear hlt3
              go_wp2
              refine wp_region_quiet_below (by kernel_rfl) (by kernel_rfl) ?_
              repeat (go_big_quiet_step ((first | (go_at_call 45; exact HQ2.out _ _))))
              refine wpQuiet_nil ?_; intro w9 hq; have E9 := Ext.class hq; clear hq
              go_wp2
              go_roundw
              case rel => exact ⟨c + 1, by omega, by go_num, hE.trans E9⟩
              case measure => simp [intOf]; omega
        · go_wp2_with fail; refine (Same.eqB (HI.out (k : Int) _ hE) (show decide ((k : Int) ∈ m) = false from HD.out)).mono ?_; rintro e w' ⟨rfl, rfl⟩
          go_wp2
          go_ret
          exact ⟨rfl, E1.trans hE⟩
    · have hne : ((wnr l p m : Int) != wnr l p m) = false := by simp
      have hq : ((wnr l p m : Int) == wnr l p m) = true := by simp
      obtain ⟨y, hy⟩ : ∃ y, y = wnr l p m := ⟨_, rfl⟩; rw [← hy] at HP1 HP2 h0 hne hq
      clear hy
      have hlt : y < 0 := by omega
      go_wp2_with fail; refine (HP1.out _ (Ext.refl _)).mono ?_; rintro e w' ⟨rfl, rfl⟩
      go_wp2_with fail; refine (HP2.out _ (Ext.refl _)).mono ?_; rintro e w2 ⟨rfl, E2⟩
      go_wp2_with fail; refine (HP2.out _ E2).mono ?_; rintro e w3 ⟨rfl, E3⟩
      go_wp2
      go_ret
      exact ⟨rfl, E1.trans (E2.trans E3)⟩
set_option maxHeartbeats 1000000 in
theorem walkFnPayoutsOf (w : World) (sa : Option Addr) (len cap : Nat) (h : Code w sa len cap) (hl : len ≤ maxLen) :
    Calls Try.prog 16 #[.slice sa len cap] w fun e w' => e = .returned (.bool true) ∧ Below w.heap.size w w' := by
  have hl' := hl
  unfold maxLen at hl'
  by_cases hbig : 1048576 < len
  · clear h hl
    go_enter Try.func16, Try.ntmps16
    go_wp2
    go_ret
    exact ⟨rfl, Below.refl _ _⟩
  · go_enter Try.func16, Try.ntmps16
    go_wp2_with fail
    refine (dDrawPayoutsOf sa len cap w h hl).mono ?_
    rintro e w1 ⟨sb, cb, l, p, sm, cm, m, rfl, hR, l12, p0, p1, hM, m13, E1⟩
    have HL := hide hR.lst
    have HM := hide hM.lst
    have hcap := hR.cap
    have hcm := hM.cap
    clear h hl hl' hbig hR hM
    have HW := hide (fun w2 (e : Ext w1 w2) => implWinner sb cb l p sm cm m w2 (HL.out.ext e) (by omega) hcap (HM.out.ext e) (by omega) hcm)
    have HP1 := hide (fun w2 (e : Ext w1 w2) => implPayouts sb cb l p sm cm m w2 (HL.out.ext e) (by omega) hcap (HM.out.ext e) (by omega) hcm)
    have HP2 := hide (fun w2 (e : Ext w1 w2) => specPayouts sb cb l p sm cm m w2 (HL.out.ext e) (by omega) hcap (HM.out.ext e) (by omega) hcm)
    have HBD := hide (fun i hi => @pay_bd l p m p1 i hi)
    have hLl := payB_len l p m
    have hEQ := fun sa ca sb cb w2 ha hb => equalInts_any sa sb (payB l p m) (payB l p m) ca cb w2 ha hb (by omega) (by omega)
    rw [decide_eq_true (rfl : payB l p m = payB l p m)] at hEQ
    have HEQ := hide hEQ
    clear hEQ
    by_cases h0 : 0 ≤ wnr l p m
    · obtain ⟨k, hk⟩ := Int.eq_ofNat_of_zero_le h0
      obtain ⟨hok, _⟩ := wnr_ok h0
      have hkl : k < l.length := by have := (wnr_lt l p m).2 h0; omega
      have hlen : (payB l p m).length = l.length := by rw [payB_yes hk, payT_len]
      have hsum := pay_sum hk
      have hat : (payB l p m).getD k 0 = (l.length : Int) * p - gift l k := by rw [payB_yes hk, payT_at _ _ _ _ _ hkl, if_pos rfl]
      obtain ⟨g0, g1, _⟩ := gift_bd hok hkl
      have hqb := np_bd (n := (l.length : Int)) (p := p) (by omega) (by omega) p0 p1
      have hpy := pot_yes hok.1
      have hbx := hok.2 _ (getD_mem hkl)
      have HG : Hid (l.length ≠ 1 → gift l k = max 0 (l.getD k 0)) := hide gift_more
      rw [hk] at HW
      obtain ⟨q, hq⟩ : ∃ q, q = (l.length : Int) * p := ⟨_, rfl⟩; rw [← hq] at hsum hat g1 hqb hbx hpy
      clear hq
      obtain ⟨L, hL⟩ : ∃ L, L = payB l p m := ⟨_, rfl⟩; rw [← hL] at HP1 HP2 HEQ HBD hsum hat hlen hLl
      have HT := hide (fun s c w2 (h : Lst w2 s L) => lawTotalS s c L.length L w2 h rfl (by omega) (fun i hi => HBD.out i hi))
      rw [hlen, hsum, ← hlen] at HT
      have hne : ((L.length : Int) == 0) = false := by rw [beq_eq_false_iff_ne]; omega
      have hkL : k < L.length := by omega
      have HLEN := hide hlen; clear hlen
      have HPY := hide hpy; clear hpy
      have HAT := hide hat; clear hat
      clear hL hsum hok h0 hk
      go_wp2_with fail; refine (HP1.out _ (Ext.refl _)).mono ?_; rintro e w2 ⟨s2, c2, rfl, R2, hb2⟩
      have E2 := Ext.of hb2
      go_wp2_with fail; refine (HP2.out _ E2).mono ?_; rintro e w3 ⟨s3, c3, rfl, R3, hb3⟩
      have E3 := Ext.of hb3
      have L2 := hide (R2.lst.ext E3)
      have L3 := hide R3.lst
      clear hb2 hb3 R2 R3
      go_wp2_with fail; refine (HEQ.out s2 c2 s3 c3 _ L2.out L3.out).mono ?_; rintro e w4 ⟨rfl, hb4⟩
      have E4 := Ext.of hb4
      clear hb4
      have L4 := hide (L2.out.ext E4)
      have EX := (E2.trans E3).trans E4
      clear L2 L3
      go_wp2_with fail; refine (HW.out _ EX).mono ?_; rintro e w' ⟨rfl, rfl⟩
      go_wp2_with fail; refine (implPot _ _ _).mono ?_; rintro e w' ⟨rfl, rfl⟩
      rw [HPY.out]
      obtain ⟨g, off, rfl, hg, e1⟩ := (HL.out.ext EX).at hkl
      obtain ⟨g2, off2, rfl, hg2, e2⟩ := L4.out.at hkL
      rw [HAT.out] at e2
      have HQ := hide (fun (dd : Nat) (os : Array Obj) => Same.quiet (HT.out (some ⟨g2, off2, none⟩) c2 (grow (redrawn w4 dd) os) (L4.out.ext (below_regrown _ _ _))))
      have hdq : ((q : Int) == q) = true := by simp
      by_cases h1 : l.length = 1
      · have hd1 : ((l.length : Int) == 1) = true := by rw [beq_iff_eq]; omega
        obtain ⟨x, hx⟩ : ∃ x, x = l.getD k 0 := ⟨_, rfl⟩; rw [← hx] at e1 hbx HG
        obtain ⟨gf, hgf⟩ : ∃ gf, gf = gift l k := ⟨_, rfl⟩; rw [← hgf] at e2 g0 g1 HG
        have q1 := cell_regrown e1
        have q2 := cell_regrown e2
        have HONE := hide h1; clear h1
        clear hx hgf HG
        go_wp2
        refine wp_region_quiet_below (by kernel_rfl) (by kernel_rfl) ?_
        repeat (go_big_quiet_step ((first | (go_at_call 42; exact HQ.out _ _))))
        refine wpQuiet_nil ?_; intro w9 hq; have E9 := Ext.class hq; clear hq
        go_wp2
        go_ret
        exact ⟨rfl, E1.trans (EX.trans E9)⟩
      · have hd1 : ((l.length : Int) == 1) = false := by rw [beq_eq_false_iff_ne]; omega
        have hgv := HG.out h1
        rw [hgv] at e2
        by_cases hpos : 0 < l.getD k 0
        · rw [Int.max_eq_right (by omega)] at e2
          obtain ⟨x, hx⟩ : ∃ x, x = l.getD k 0 := ⟨_, rfl⟩; rw [← hx] at e1 e2 hbx hpos
          have hdd : ((q - x : Int) == q - x) = true := by simp
          have q1 := cell_regrown e1
          have q2 := cell_regrown e2
          clear hx HG hgv h1 g0 g1
          go_wp2
          refine wp_region_quiet_below (by kernel_rfl) (by kernel_rfl) ?_
          repeat (go_big_quiet_step ((first | (go_at_call 42; exact HQ.out _ _))))
          refine wpQuiet_nil ?_; intro w9 hq; have E9 := Ext.class hq; clear hq
          go_wp2
          go_ret
          exact ⟨rfl, E1.trans (EX.trans E9)⟩
        · rw [Int.max_eq_left (by omega), Int.sub_zero] at e2
          obtain ⟨x, hx⟩ : ∃ x, x = l.getD k 0 := ⟨_, rfl⟩; rw [← hx] at e1 hbx hpos
          have q1 := cell_regrown e1
          have q2 := cell_regrown e2
          clear hx HG hgv h1 g0 g1
          go_wp2
          refine wp_region_quiet_below (by kernel_rfl) (by kernel_rfl) ?_
          repeat (go_big_quiet_step ((first | (go_at_call 42; exact HQ.out _ _))))
          refine wpQuiet_nil ?_; intro w9 hq; have E9 := Ext.class hq; clear hq
          go_wp2
          go_ret
          exact ⟨rfl, E1.trans (EX.trans E9)⟩
    · have hnil := payB_no (l := l) (p := p) (m := m) (by omega)
      rw [hnil] at HP1 HP2 HEQ
      clear h0 hnil HBD hLl HW
      go_wp2_with fail; refine (HP1.out _ (Ext.refl _)).mono ?_; rintro e w2 ⟨s2, c2, rfl, R2, hb2⟩
      have E2 := Ext.of hb2
      go_wp2_with fail; refine (HP2.out _ E2).mono ?_; rintro e w3 ⟨s3, c3, rfl, R3, hb3⟩
      have E3 := Ext.of hb3
      have L2 := hide (R2.lst.ext E3)
      have L3 := hide R3.lst
      clear hb2 hb3 R2 R3
      go_wp2_with fail; refine (HEQ.out s2 c2 s3 c3 _ L2.out L3.out).mono ?_; rintro e w4 ⟨rfl, hb4⟩
      have E4 := Ext.of hb4
      clear hb4
      have L4 := hide (L2.out.ext E4)
      have EX := (E2.trans E3).trans E4
      clear L2 L3
      go_wp2_with fail; refine (HP2.out _ EX).mono ?_; rintro e w5 ⟨s5, c5, rfl, R5, hb5⟩
      have E5 := Ext.of hb5
      have L5 := hide R5.lst
      have L6 := hide (L4.out.ext E5)
      clear hb5 R5
      go_wp2_with fail; refine (HEQ.out s2 c2 s5 c5 _ L6.out L5.out).mono ?_; rintro e w6 ⟨rfl, hb6⟩
      have E6 := Ext.of hb6
      clear hb6
      have E := E1.trans (EX.trans (E5.trans E6))
      go_wp2
      go_ret
      exact ⟨rfl, E⟩
end Go.Proofs.Ythbkkbcbhhmhoaa
