/- Chapter 3: bids and who wins them: contracts of the program and of the model. -/
import Derived.Test.YthbkkbcbhhmhoabOrd1
namespace Go.Proofs.Ythbkkbcbhhmhoab
open Go.ChangeShapes Go.WideShapes Go.ChangeAt Go.RowKit Go.Joins Go.Sort
set_option linter.unusedVariables false

/-- the bids are valid -/
def bok (l : List Int) (p : Int) : Prop := potOk l.length p ∧ ∀ x ∈ l, -1 ≤ x ∧ x ≤ (l.length : Int) * p
instance (l : List Int) (p : Int) : Decidable (bok l p) := by unfold bok; infer_instance
def bokB (l : List Int) (p : Int) : Bool := decide (bok l p)
theorem bokB_yes {l : List Int} {p : Int} (h : bok l p) : bokB l p = true := decide_eq_true h
theorem bokB_no {l : List Int} {p : Int} (h : ¬ bok l p) : bokB l p = false := decide_eq_false h
theorem bokB_iff {l : List Int} {p : Int} : bokB l p = true ↔ bok l p := by unfold bokB; simp
/-- the highest bidder of the first k members who are not done, the first one of several -/
def win (l : List Int) (d : Nat → Bool) : Nat → Int
  | 0 => -1
  | k + 1 => if d k = false ∧ (win l d k < 0 ∨ l.getD (win l d k).toNat 0 < l.getD k 0) then (k : Int) else win l d k
theorem win_yes {l : List Int} {d : Nat → Bool} {k : Nat} (h : d k = false) (h2 : win l d k < 0 ∨ l.getD (win l d k).toNat 0 < l.getD k 0) : win l d (k + 1) = k := if_pos ⟨h, h2⟩
theorem win_no {l : List Int} {d : Nat → Bool} {k : Nat} (h : ¬ (d k = false ∧ (win l d k < 0 ∨ l.getD (win l d k).toNat 0 < l.getD k 0))) : win l d (k + 1) = win l d k := if_neg h
theorem win_bd (l : List Int) (d : Nat → Bool) (k : Nat) : -1 ≤ win l d k ∧ win l d k < k := by
  induction k with
  | zero => simp [win]
  | succ k ih => unfold win; split <;> omega
def inD (m : List Int) (k : Nat) : Bool := decide ((k : Int) ∈ m)
def wok (l : List Int) (p : Int) (m : List Int) : Prop := bok l p ∧ vmB m l.length = true
instance (l : List Int) (p : Int) (m : List Int) : Decidable (wok l p m) := by unfold wok; infer_instance
def wnr (l : List Int) (p : Int) (m : List Int) : Int := if wok l p m then win l (inD m) l.length else -1
theorem wnr_yes {l : List Int} {p : Int} {m : List Int} (h : wok l p m) : wnr l p m = win l (inD m) l.length := if_pos h
theorem wnr_no {l : List Int} {p : Int} {m : List Int} (h : ¬ wok l p m) : wnr l p m = -1 := if_neg h
theorem setN_inD {m : List Int} {n : Nat} (h : vmB m n = true) (k : Nat) : (setN m).testBit k = inD m k := setN_bit m (fun x hx => ((vmB_iff.1 h).1 x hx).1) (vmB_iff.1 h).2 k
theorem getD_win_mem {l : List Int} {d : Nat → Bool} {k : Nat} (hk : k ≤ l.length) (h : 0 ≤ win l d k) : (win l d k).toNat < l.length := by have := win_bd l d k; omega

set_option maxHeartbeats 400000 in
theorem implBids (sa : Option Addr) (cap : Nat) (l : List Int) (p : Int) (w : World) (h : Lst w sa l) (hl : l.length ≤ 2000000) :
    Calls Try.prog 71 #[.slice sa l.length cap, .int .i64 p] w (Same (.bool (bokB l p)) w) := by
  have H := hide h; clear h
  by_cases hp : potOk l.length p
  · have hb := pot_bd hp
    have HY : Hid ((∀ x ∈ l, -1 ≤ x ∧ x ≤ (l.length : Int) * p) → bokB l p = true) := hide (fun hx => bokB_yes ⟨hp, hx⟩)
    have HN : Hid ((¬ ∀ x ∈ l, -1 ≤ x ∧ x ≤ (l.length : Int) * p) → bokB l p = false) := hide (fun hx => bokB_no fun h => hx h.2)
    have hq := pot_yes hp
    clear hp
    go_enter Try.func71, Try.ntmps71
    go_wp2_with fail; refine (implPot _ _ _).mono ?_; rintro e w' ⟨rfl, rfl⟩
    rw [hq]
    clear hq
    obtain ⟨q, hq⟩ : ∃ q, q = (l.length : Int) * p := ⟨_, rfl⟩; rw [← hq] at hb HY HN ⊢
    clear hq
    go_wp2
    go_loop [16] (fun i => ∃ k : Nat, k ≤ l.length ∧ i = .int .i64 k ∧ Hid (∀ x ∈ l.take k, -1 ≤ x ∧ x ≤ q)) (fun i => l.length - (intOf i).toNat)
    case atStart => exact ⟨0, Nat.zero_le _, rfl, show ∀ x ∈ _, _ by simp⟩
    case round =>
      obtain ⟨k, hk, rfl, HT⟩ := hrel
      by_cases hlt : k < l.length
      · obtain ⟨g, off, rfl, hg, c1⟩ := H.out.at hlt
        obtain ⟨x, hx⟩ : ∃ x, x = l.getD k 0 := ⟨_, rfl⟩; rw [← hx] at c1
        have HX := hide hx; clear hx
        by_cases hin : inr x (-1) q = true
        · go_wp2_with fail; refine (implInr _ _ _ _).mono ?_; rintro e w' ⟨rfl, rfl⟩
          go_wp2
          go_round
          case rel => exact ⟨k + 1, by omega, by go_num, all_succ HT.out hlt (by rw [← HX.out]; exact inr_iff.1 hin)⟩
          case measure => simp [intOf]; omega
        · have HF := hide (HN.out fun h => hin (inr_iff.2 (by rw [HX.out]; exact h _ (getD_mem hlt))))
          rw [Bool.not_eq_true] at hin
          go_wp2_with fail; refine (implInr _ _ _ _).mono ?_; rintro e w' ⟨rfl, rfl⟩
          go_wp2
          go_ret
          exact Same.bool (by rw [HF.out])
      · have HF := hide (HY.out (by have := HT.out; rwa [List.take_of_length_le (by omega)] at this))
        go_wp2
        go_ret
        exact Same.bool (by rw [HF.out])
  · have HF := hide (@bokB_no l p fun h => hp h.1)
    have hq := pot_no hp
    clear hp
    go_enter Try.func71, Try.ntmps71
    go_wp2_with fail; refine (implPot _ _ _).mono ?_; rintro e w' ⟨rfl, rfl⟩
    rw [hq]
    clear hq
    go_wp2
    go_ret
    exact Same.bool (by rw [HF.out])
set_option maxHeartbeats 400000 in
theorem specBids (sa : Option Addr) (cap : Nat) (l : List Int) (p : Int) (w : World) (h : Lst w sa l) (hl : l.length ≤ 2000000) :
    Calls Try.prog 80 #[.slice sa l.length cap, .int .i64 p] w (Ret (.bool (bokB l p)) w) := by
  have H := hide h; clear h
  by_cases h1 : inr l.length 1 12 = true
  · by_cases h2 : inr p 0 10000 = true
    · have hp : potOk l.length p := ⟨inr_iff.1 h1, inr_iff.1 h2⟩
      have hb := pot_bd hp
      have HF := hide (show alli l (-1) ((l.length : Int) * p) = bokB l p by
        unfold alli bokB; congr 1; rw [eq_iff_iff]; exact ⟨fun h => ⟨hp, h⟩, fun h => h.2⟩)
      clear hp
      go_enter Try.func80, Try.ntmps80
      go_wp2_with fail; refine (Same.eqB (specInr _ _ _ _) h1).mono ?_; rintro e w' ⟨rfl, rfl⟩
      go_wp2_with fail; refine (Same.eqB (specInr _ _ _ _) h2).mono ?_; rintro e w' ⟨rfl, rfl⟩
      go_wp2_with fail; refine (specAllIn _ _ _ l _ _ _ H.out rfl hl).mono ?_; rintro e w' ⟨rfl, rfl⟩
      go_wp2
      go_ret
      exact Ret.bool HF.out (Ext.refl _)
    · have HF := hide (@bokB_no l p fun h => h2 (inr_iff.2 h.1.2))
      rw [Bool.not_eq_true] at h2
      go_enter Try.func80, Try.ntmps80
      go_wp2_with fail; refine (Same.eqB (specInr _ _ _ _) h1).mono ?_; rintro e w' ⟨rfl, rfl⟩
      go_wp2_with fail; refine (Same.eqB (specInr _ _ _ _) h2).mono ?_; rintro e w' ⟨rfl, rfl⟩
      go_wp2
      go_ret
      exact Ret.bool (by rw [HF.out]) (Ext.refl _)
  · have HF := hide (@bokB_no l p fun h => h1 (inr_iff.2 h.1.1))
    rw [Bool.not_eq_true] at h1
    go_enter Try.func80, Try.ntmps80
    go_wp2_with fail; refine (Same.eqB (specInr _ _ _ _) h1).mono ?_; rintro e w' ⟨rfl, rfl⟩
    go_wp2
    go_ret
    exact Ret.bool (by rw [HF.out]) (Ext.refl _)
set_option maxHeartbeats 1000000 in
theorem implWinner (sa : Option Addr) (cap : Nat) (l : List Int) (p : Int) (sm : Option Addr) (cm : Nat) (m : List Int) (w : World) (h : Lst w sa l) (hl : l.length ≤ 2000000) (hcap : l.length ≤ cap) (hm : Lst w sm m) (hml : m.length ≤ 2000000) (hmc : m.length ≤ cm) :
    Calls Try.prog 45 #[.slice sa l.length cap, .int .i64 p, .slice sm m.length cm] w (Same (.int .i64 (wnr l p m)) w) := by
  have H := hide h; clear h
  have HM := hide hm; clear hm
  by_cases hb : bok l p
  · have hl12 : l.length ≤ 12 := by have := hb.1.1.2; omega
    have h1 := bokB_yes hb
    by_cases hv : vmB m l.length = true
    · have HF := hide (wnr_yes (l := l) (p := p) (m := m) ⟨hb, hv⟩)
      have HB := hide (fun k => setN_inD hv k)
      have hs := setN_lt hv
      have hs2 := pow12 hl12
      have hS := setR_yes hv
      clear hb hv
      go_enter Try.func45, Try.ntmps45
      go_wp2_with fail; refine (Same.eqB (implBids _ _ _ _ _ H.out hl) h1).mono ?_; rintro e w' ⟨rfl, rfl⟩
      go_wp2_with fail; refine (implSetOf sm cm m l.length _ HM.out hml hl12).mono ?_; rintro e w' ⟨rfl, rfl⟩
      rw [hS]
      obtain ⟨s, hs0⟩ : ∃ s, s = setN m := ⟨_, rfl⟩; rw [← hs0] at hs HB ⊢
      have HS0 := hide hs0; clear hs0
      have hs3 : s ≤ 4096 := by omega
      clear hs hs2 hS
      go_wp2
      go_loop [8, 23] (fun b i => ∃ k : Nat, k ≤ l.length ∧ i = .int .i64 k ∧ b = .int .i64 (win l (inD m) k)) (fun _ i => l.length - (intOf i).toNat)
      case atStart => exact ⟨0, Nat.zero_le _, rfl, rfl⟩
      case round =>
        obtain ⟨k, hk, rfl, rfl⟩ := hrel
        have hwb := win_bd l (inD m) k
        by_cases hlt : k < l.length
        · obtain ⟨g, off, rfl, hg, c1⟩ := H.out.at hlt
          have hbit := HB.out k
          obtain ⟨x, hx⟩ : ∃ x, x = l.getD k 0 := ⟨_, rfl⟩; rw [← hx] at c1
          have HX := hide hx; clear hx
          by_cases hd : inD m k = true
          · have HN := hide (win_no (l := l) (d := inD m) (k := k) (by rw [hd]; simp))
            rw [hd] at hbit
            clear hd
            go_wp2_with fail; refine (Same.eqB (implHas s k _ (by omega) (by omega)) hbit).mono ?_; rintro e w' ⟨rfl, rfl⟩
            obtain ⟨b, hb⟩ : ∃ b, b = win l (inD m) k := ⟨_, rfl⟩; rw [← hb] at hwb HN ⊢
            clear hb
            go_wp2
            go_round
            case rel => exact ⟨k + 1, by omega, by go_num, by rw [HN.out]⟩
            case measure => simp [intOf]; omega
          · rw [Bool.not_eq_true] at hd
            rw [hd] at hbit
            by_cases hw0 : win l (inD m) k < 0
            · have HY := hide (win_yes (l := l) hd (.inl hw0))
              clear hd
              go_wp2_with fail; refine (Same.eqB (implHas s k _ (by omega) (by omega)) hbit).mono ?_; rintro e w' ⟨rfl, rfl⟩
              obtain ⟨b, hb⟩ : ∃ b, b = win l (inD m) k := ⟨_, rfl⟩; rw [← hb] at hwb hw0 ⊢
              clear hb
              go_wp2
              go_round
              case rel => exact ⟨k + 1, by omega, by go_num, by rw [HY.out]⟩
              case measure => simp [intOf]; omega
            · obtain ⟨b, hb⟩ := Int.eq_ofNat_of_zero_le (show 0 ≤ win l (inD m) k by omega)
              obtain ⟨g2, off2, e2, _, c2⟩ := H.out.at (k := b) (by omega)
              cases e2
              by_cases hgt : l.getD b 0 < x
              · have HY := hide (win_yes (l := l) (k := k) hd (.inr (by rw [hb, Int.toNat_natCast, ← HX.out]; exact hgt)))
                clear hd
                go_wp2_with fail; refine (Same.eqB (implHas s k _ (by omega) (by omega)) hbit).mono ?_; rintro e w' ⟨rfl, rfl⟩
                rw [hb] at hwb
                clear hw0 hb
                obtain ⟨y, hy⟩ : ∃ y, y = l.getD b 0 := ⟨_, rfl⟩; rw [← hy] at c2 hgt
                clear hy
                go_wp2
                go_round
                case rel => exact ⟨k + 1, by omega, by go_num, by rw [HY.out]⟩
                case measure => simp [intOf]; omega
              · have HN := hide (win_no (l := l) (d := inD m) (k := k) (by rw [hb, Int.toNat_natCast, ← HX.out]; rintro ⟨_, h | h⟩ <;> omega))
                clear hd
                go_wp2_with fail; refine (Same.eqB (implHas s k _ (by omega) (by omega)) hbit).mono ?_; rintro e w' ⟨rfl, rfl⟩
                rw [hb] at hwb HN
                clear hw0 hb
                obtain ⟨y, hy⟩ : ∃ y, y = l.getD b 0 := ⟨_, rfl⟩; rw [← hy] at c2 hgt
                clear hy
                go_wp2
                go_round
                case rel => exact ⟨k + 1, by omega, by go_num, by rw [HN.out]⟩
                case measure => simp [intOf]; omega
        · obtain rfl : k = l.length := by omega
          go_wp2
          go_ret
          exact Same.int (by rw [HF.out])
    · have HF := hide (wnr_no (l := l) (p := p) (m := m) fun h => hv h.2)
      rw [Bool.not_eq_true] at hv
      have hS := setR_no hv
      clear hb hv
      go_enter Try.func45, Try.ntmps45
      go_wp2_with fail; refine (Same.eqB (implBids _ _ _ _ _ H.out hl) h1).mono ?_; rintro e w' ⟨rfl, rfl⟩
      go_wp2_with fail; refine (implSetOf sm cm m l.length _ HM.out hml hl12).mono ?_; rintro e w' ⟨rfl, rfl⟩
      rw [hS]
      clear hS
      go_wp2
      go_ret
      exact Same.int (by rw [HF.out])
  · have HF := hide (wnr_no (l := l) (p := p) (m := m) fun h => hb h.1)
    have h1 := bokB_no hb
    clear hb
    go_enter Try.func45, Try.ntmps45
    go_wp2_with fail; refine (Same.eqB (implBids _ _ _ _ _ H.out hl) h1).mono ?_; rintro e w' ⟨rfl, rfl⟩
    go_wp2
    go_ret
    exact Same.int (by rw [HF.out])
set_option maxHeartbeats 1000000 in
theorem specWin (sa : Option Addr) (cap n : Nat) (l : List Int) (sm : Option Addr) (cm nm : Nat) (m : List Int) (w : World) (h : Lst w sa l) (hn : l.length = n) (hl : n ≤ 2000000) (hm : Lst w sm m) (hnm : m.length = nm) (hml : nm ≤ 2000000) :
    Calls Try.prog 81 #[.slice sa n cap, .slice sm nm cm] w (Ret (.int .i64 (win l (inD m) n)) w) := by
  subst hn
  have H := hide h; clear h
  have HM := hide hm; clear hm
  go_enter Try.func81, Try.ntmps81
  go_wp2
  go_loopw [5, 6] (fun b i wr => ∃ k : Nat, k ≤ l.length ∧ i = .int .i64 k ∧ b = .int .i64 (win l (inD m) k) ∧ Ext w wr) (fun _ i _ => l.length - (intOf i).toNat)
  case atStart => exact ⟨0, Nat.zero_le _, rfl, rfl, Ext.refl _⟩
  case round =>
    obtain ⟨k, hk, rfl, rfl, hE⟩ := hrel
    have hwb := win_bd l (inD m) k
    have HP := hide (fun (d : Nat) (os : Array Obj) => specPlaceIn sm cm nm m (k : Int) (grow (redrawn wr d) os) ((HM.out.ext hE).ext (below_regrown _ _ _)) hnm hml)
    by_cases hlt : k < l.length
    · obtain ⟨g, off, rfl, hg, c1⟩ := (H.out.ext hE).at hlt
      by_cases hd : inD m k = true
      · have HN := hide (win_no (l := l) (d := inD m) (k := k) (by rw [hd]; simp))
        have hp := plc_in (of_decide_eq_true hd)
        clear hd
        obtain ⟨b, hb⟩ : ∃ b, b = win l (inD m) k := ⟨_, rfl⟩; rw [← hb] at hwb HN ⊢
        obtain ⟨q, hq⟩ : ∃ q, q = plc m (k : Int) := ⟨_, rfl⟩; rw [← hq] at hp HP
        have hd1 : decide (q < 0) = false := decide_eq_false (by omega)
        clear hb hq
        go_wp2
        refine wp_region_quiet_below (by kernel_rfl) (by kernel_rfl) ?_
        repeat (go_big_quiet_step ((first | (go_at_call 87; exact Same.quiet (HP.out _ _)))))
        refine wpQuiet_nil ?_; intro w9 hq; have E9 := Ext.class hq; clear hq
        go_wp2
        go_roundw
        case rel => exact ⟨k + 1, by omega, by go_num, by rw [HN.out], hE.trans E9⟩
        case measure => simp [intOf]; omega
      · rw [Bool.not_eq_true] at hd
        have hp := plc_out (of_decide_eq_false hd)
        have hd1 : decide (plc m (k : Int) < 0) = true := decide_eq_true (by omega)
        clear hp
        by_cases hw0 : win l (inD m) k < 0
        · have HY := hide (win_yes (l := l) hd (.inl hw0))
          clear hd
          obtain ⟨b, hb⟩ : ∃ b, b = win l (inD m) k := ⟨_, rfl⟩; rw [← hb] at hwb hw0 ⊢
          have hd2 : decide (b < 0) = true := decide_eq_true hw0
          obtain ⟨q, hq⟩ : ∃ q, q = plc m (k : Int) := ⟨_, rfl⟩; rw [← hq] at hd1 HP
          clear hb hq
          go_wp2
          refine wp_region_quiet_below (by kernel_rfl) (by kernel_rfl) ?_
          repeat (go_big_quiet_step ((first | (go_at_call 87; exact Same.quiet (HP.out _ _)))))
          refine wpQuiet_nil ?_; intro w9 hq; have E9 := Ext.class hq; clear hq
          go_wp2
          go_roundw
          case rel => exact ⟨k + 1, by omega, by go_num, by rw [HY.out], hE.trans E9⟩
          case measure => simp [intOf]; omega
        · obtain ⟨b, hb⟩ := Int.eq_ofNat_of_zero_le (show 0 ≤ win l (inD m) k by omega)
          obtain ⟨g2, off2, e2, _, c2⟩ := (H.out.ext hE).at (k := b) (by omega)
          cases e2
          have hd2 : decide ((b : Int) < 0) = false := decide_eq_false (by omega)
          by_cases hgt : l.getD b 0 < l.getD k 0
          · have HY := hide (win_yes (l := l) (k := k) hd (.inr (by rw [hb, Int.toNat_natCast]; exact hgt)))
            clear hd
            rw [hb] at hwb ⊢
            clear hw0 hb
            obtain ⟨x, hx⟩ : ∃ x, x = l.getD k 0 := ⟨_, rfl⟩; rw [← hx] at c1 hgt
            obtain ⟨y, hy⟩ : ∃ y, y = l.getD b 0 := ⟨_, rfl⟩; rw [← hy] at c2 hgt
            have hd3 : decide (y < x) = true := decide_eq_true hgt
            obtain ⟨q, hq⟩ : ∃ q, q = plc m (k : Int) := ⟨_, rfl⟩; rw [← hq] at hd1 HP
            clear hx hy hq
            have r1 := cell_regrown c1
            have r2 := cell_regrown c2
            go_wp2
            refine wp_region_quiet_below (by kernel_rfl) (by kernel_rfl) ?_
            repeat (go_big_quiet_step ((first | (go_at_call 87; exact Same.quiet (HP.out _ _)))))
            refine wpQuiet_nil ?_; intro w9 hq; have E9 := Ext.class hq; clear hq
            go_wp2
            go_roundw
            case rel => exact ⟨k + 1, by omega, by go_num, by rw [HY.out], hE.trans E9⟩
            case measure => simp [intOf]; omega
          · have HN := hide (win_no (l := l) (d := inD m) (k := k) (by rw [hb, Int.toNat_natCast]; rintro ⟨_, h | h⟩ <;> omega))
            clear hd
            rw [hb] at hwb HN ⊢
            clear hw0 hb
            obtain ⟨x, hx⟩ : ∃ x, x = l.getD k 0 := ⟨_, rfl⟩; rw [← hx] at c1 hgt
            obtain ⟨y, hy⟩ : ∃ y, y = l.getD b 0 := ⟨_, rfl⟩; rw [← hy] at c2 hgt
            have hd3 : decide (y < x) = false := decide_eq_false hgt
            obtain ⟨q, hq⟩ : ∃ q, q = plc m (k : Int) := ⟨_, rfl⟩; rw [← hq] at hd1 HP
            clear hx hy hq
            have r1 := cell_regrown c1
            have r2 := cell_regrown c2
            go_wp2
            refine wp_region_quiet_below (by kernel_rfl) (by kernel_rfl) ?_
            repeat (go_big_quiet_step ((first | (go_at_call 87; exact Same.quiet (HP.out _ _)))))
            refine wpQuiet_nil ?_; intro w9 hq; have E9 := Ext.class hq; clear hq
            go_wp2
            go_roundw
            case rel => exact ⟨k + 1, by omega, by go_num, by rw [HN.out], hE.trans E9⟩
            case measure => simp [intOf]; omega
    · obtain rfl : k = l.length := by omega
      go_wp2
      go_ret
      exact Ret.int rfl hE
end Go.Proofs.Ythbkkbcbhhmhoab
