/- Chapter 3: net amounts by bids in plain numbers, and the walk of their law, at drawn arguments. -/
import Derived.Test.YthbkkbcbhhmhoabLawB7
namespace Go.Proofs.Ythbkkbcbhhmhoab
open Go.ChangeShapes Go.WideShapes Go.ChangeAt Go.RowKit Go.Joins Go.Sort
set_option linter.unusedVariables false

theorem sgK_bdT (l : List Int) (h : ∀ i, i < l.length → -120000 ≤ l.getD i 0 ∧ l.getD i 0 ≤ 120000) (k : Nat) (hk : k ≤ l.length) : -120000 * (k : Int) ≤ sgK l k ∧ sgK l k ≤ 120000 * (k : Int) := by
  induction k with
  | zero => simp [sgK]
  | succ k ih =>
    have h1 := ih (by omega)
    have h2 := h k (by omega)
    show _ ≤ sgK l k + l.getD k 0 ∧ sgK l k + l.getD k 0 ≤ _
    omega
set_option maxHeartbeats 400000 in
theorem lawTotalT (sa : Option Addr) (cap n : Nat) (l : List Int) (w : World) (h : Lst w sa l) (hn : l.length = n) (hl : n ≤ 100) (hx : ∀ i, i < l.length → -120000 ≤ l.getD i 0 ∧ l.getD i 0 ≤ 120000) :
    Calls Try.prog 48 #[.slice sa n cap] w (Same (.int .i64 (sgK l n)) w) := by
  subst hn
  have H := hide h; clear h
  have HX := hide hx; clear hx
  have HN : Hid (∀ k, sgK l (k + 1) = sgK l k + l.getD k 0) := hide fun k => rfl
  have HB := hide (sgK_bdT l HX.out)
  go_enter Try.func48, Try.ntmps48
  go_wp2
  go_loop [3, 4] (fun a i => ∃ k : Nat, k ≤ l.length ∧ i = .int .i64 k ∧ a = .int .i64 (sgK l k)) (fun _ i => l.length - (intOf i).toNat)
  case atStart => exact ⟨0, Nat.zero_le _, rfl, rfl⟩
  case round =>
    obtain ⟨k, hk, rfl, rfl⟩ := hrel
    have hb := HB.out k hk
    by_cases hlt : k < l.length
    · obtain ⟨g, off, rfl, hg, c1⟩ := H.out.at hlt
      have hc := HX.out k hlt
      have HS := hide (HN.out k)
      obtain ⟨x, hx⟩ : ∃ x, x = l.getD k 0 := ⟨_, rfl⟩; rw [← hx] at c1 hc HS
      obtain ⟨s, hs⟩ : ∃ s, s = sgK l k := ⟨_, rfl⟩; rw [← hs] at hb HS ⊢
      clear hx hs
      go_wp2
      go_round
      case rel => exact ⟨k + 1, by omega, by go_num, by rw [HS.out]⟩
      case measure => simp [intOf]; omega
    · obtain rfl : k = l.length := by omega
      go_wp2
      go_ret
      exact Same.int rfl
theorem sgK_payT (n : Nat) (q : Int) (k : Nat) (g : Int) (hk : k < n) : ∀ i, i ≤ n → sgK (payT n q k g) i = (if k < i then q - g else 0) + sumP g ((n : Int) - 1) (if i ≤ k then i else i - 1) := by
  intro i
  induction i with
  | zero => intro _; simp [sgK, sumP]
  | succ i ih =>
    intro hi
    show sgK _ i + (payT n q k g).getD i 0 = _
    rw [ih (by omega), payT_at _ _ _ _ _ (by omega)]
    by_cases e : i = k
    · subst e
      rw [if_neg (Nat.lt_irrefl _), if_pos (Nat.le_refl _), if_pos rfl, if_pos (Nat.lt_succ_self _), if_neg (by omega), Nat.add_sub_cancel]; omega
    · rw [if_neg e]
      by_cases h : i < k
      · rw [if_neg (by omega), if_pos (by omega), if_pos h, if_neg (by omega), if_pos (by omega)]
        show 0 + sumP g _ i + prt g _ i = 0 + (sumP g _ i + prt g _ i); omega
      · obtain ⟨j, rfl⟩ : ∃ j, i = j + 1 := ⟨i - 1, by omega⟩
        rw [if_pos (by omega), if_neg (by omega), if_neg h, if_pos (by omega), if_neg (by omega), Nat.add_sub_cancel]
        show q - g + sumP g _ j + prt g _ j = q - g + (sumP g _ j + prt g _ j); omega
theorem pay_sumT {l : List Int} {p : Int} {m : List Int} {k : Nat} (h : wnr l p m = (k : Int)) : sgK (payB l p m) l.length = (l.length : Int) * p := by
  have hk : k < l.length := by have := (wnr_lt l p m).2 (by omega); omega
  rw [payB_yes h, sgK_payT _ _ _ _ hk _ (Nat.le_refl _), if_pos hk, if_neg (by omega)]
  by_cases h1 : l.length = 1
  · have hg : gift l k = 0 := if_pos h1
    rw [hg, h1]; simp [sumP]
  · have := sumP_full (g := gift l k) (d := (l.length : Int) - 1) (by omega)
    rw [show ((l.length : Int) - 1).toNat = l.length - 1 by omega] at this
    rw [this]; omega
theorem pyA_bd2 {ll : List (List Int)} {p : Int} (h : tOk ll p) {c : Nat} (hc : c < ll.length) {i : Nat} (hi : i < ll.length) : 0 ≤ pyA ll p c i ∧ pyA ll p c i ≤ (ll.length : Int) * p + 1 := by
  obtain ⟨k, hk, _, hw, hl, _⟩ := rnd h hc
  have hb := (h.2 c hc).2
  obtain ⟨g0, g1, g2⟩ := gift_bd (l := ll.getD c []) (p := p) (k := k) hb (by omega)
  have hq := pot_bd hb.1
  rw [hl] at g1 hq
  unfold pyA
  rw [payB_yes hw, payT_at _ _ _ _ _ (by omega), hl]
  by_cases e : i = k
  · rw [if_pos e]; omega
  · rw [if_neg e]
    have := prt_bd (g := gift (ll.getD c []) k) (d := (ll.length : Int) - 1) g0 (by omega) (if i < k then i else i - 1)
    omega
theorem bnA_bd2 {ll : List (List Int)} {p : Int} (h : tOk ll p) (h7 : ll.length ≤ 7) (hp : p ≤ 50) {i : Nat} (hi : i < ll.length) : ∀ c, c ≤ ll.length → -50 * (c : Int) ≤ bnA ll p c i ∧ bnA ll p c i ≤ 351 * (c : Int) := by
  intro c
  have hp0 := (h.2 0 (by have := h.1; omega)).2.1.2.1
  have hnp := prod_bd (m := (ll.length : Int)) (p := p) (a := 7) (b := 50) (by omega) (by omega) hp0 hp
  induction c with
  | zero => intro _; simp [bnA]
  | succ c ih =>
    intro hc
    have h1 := ih (by omega)
    have h2 := pyA_bd2 h (show c < ll.length by omega) hi
    show _ ≤ bnA ll p c i + (pyA ll p c i - p) ∧ bnA ll p c i + (pyA ll p c i - p) ≤ _
    omega
def sumF (f : Nat → Int) : Nat → Int
  | 0 => 0
  | k + 1 => sumF f k + f k
theorem sgK_sumF (L : List Int) (f : Nat → Int) : ∀ k, (∀ i, i < k → L.getD i 0 = f i) → sgK L k = sumF f k := by
  intro k
  induction k with
  | zero => intro _; rfl
  | succ k ih => intro h; show sgK L k + L.getD k 0 = sumF f k + f k; rw [ih (fun i hi => h i (by omega)), h k (by omega)]
theorem sumF_bn (ll : List (List Int)) (p : Int) (c : Nat) : ∀ k, sumF (bnA ll p (c + 1)) k = sumF (bnA ll p c) k + sumF (pyA ll p c) k - (k : Int) * p := by
  intro k
  induction k with
  | zero => simp [sumF]
  | succ k ih =>
    show sumF (bnA ll p (c + 1)) k + (bnA ll p c k + (pyA ll p c k - p)) = sumF (bnA ll p c) k + bnA ll p c k + (sumF (pyA ll p c) k + pyA ll p c k) - ((k + 1 : Nat) : Int) * p
    rw [ih, Int.natCast_add, Int.add_mul]; omega
theorem bn_zero {ll : List (List Int)} {p : Int} (h : tOk ll p) : ∀ c, c ≤ ll.length → sumF (bnA ll p c) ll.length = 0 := by
  intro c
  induction c with
  | zero =>
    intro _
    have : ∀ k, sumF (bnA ll p 0) k = 0 := by
      intro k
      induction k with
      | zero => rfl
      | succ k ih => show sumF (bnA ll p 0) k + 0 = 0; rw [ih]; rfl
    exact this _
  | succ c ih =>
    intro hc
    obtain ⟨k, hk, _, hw, hl, hpl⟩ := rnd h (show c < ll.length by omega)
    have h1 := pay_sumT hw
    rw [hl, sgK_sumF _ (pyA ll p c) _ (fun i _ => rfl)] at h1
    rw [sumF_bn, ih (by omega), h1]; omega
theorem bnL_sum {ll : List (List Int)} {p : Int} (h : tOk ll p) : sgK (bnL ll p) ll.length = 0 := by
  rw [bnL_yes h, sgK_sumF _ (bnA ll p ll.length) _ (fun i hi => by rw [bnP_at _ _ _ _ _ hi, if_neg (Nat.not_lt_zero _), Int.add_zero])]
  exact bn_zero h _ (Nat.le_refl _)
/-- who bids nothing loses nothing -/
theorem bn_free {ll : List (List Int)} {p : Int} (h : tOk ll p) {i : Nat} (hi : i < ll.length) (hf : ∀ k, k < ll.length → (ll.getD k []).getD i 0 ≤ 0) :
    ∀ c, c ≤ ll.length → -((c : Int) * p) + (if (i : Int) ∈ bo ll c then (ll.length : Int) * p else 0) ≤ bnA ll p c i := by
  have hp0 := (h.2 0 (by have := h.1; omega)).2.1.2.1
  intro c
  induction c with
  | zero => intro _; simp [bnA, bo]
  | succ c ih =>
    intro hc
    have h1 := ih (by omega)
    obtain ⟨k, hk, hwin, hw, hl, hpl⟩ := rnd h (show c < ll.length by omega)
    have hb := (h.2 c (by omega)).2
    have hv := bo_vm (c + 1) hc (fun j hj => h.2 j (by omega))
    have hbo : bo ll (c + 1) = bo ll c ++ [(k : Int)] := by show bo ll c ++ [_] = _; rw [hwin]
    have hnd := (vmB_iff.1 hv).2
    rw [hbo, List.nodup_append] at hnd
    show _ ≤ bnA ll p c i + (pyA ll p c i - p)
    have hpy : pyA ll p c i = if i = k then (ll.length : Int) * p - gift (ll.getD c []) k else prt (gift (ll.getD c []) k) ((ll.length : Int) - 1) (if i < k then i else i - 1) := by
      unfold pyA; rw [payB_yes hw, payT_at _ _ _ _ _ (by omega), hl]
    rw [hpy, hbo, Int.natCast_add, Int.add_mul]
    by_cases e : i = k
    · subst e
      have hg : gift (ll.getD c []) i = 0 := by
        unfold gift
        split
        · rfl
        · exact Int.max_eq_left (hf c (by omega))
      have hni : (i : Int) ∉ bo ll c := fun hm => hnd.2.2 _ hm _ (List.mem_singleton.2 rfl) rfl
      rw [if_neg hni] at h1
      rw [if_pos rfl, hg, if_pos (by simp)]
      simp; omega
    · rw [if_neg e]
      obtain ⟨g0, g1, g2⟩ := gift_bd (l := ll.getD c []) (p := p) (k := k) hb (by omega)
      have hpr := (prt_bd (g := gift (ll.getD c []) k) (d := (ll.length : Int) - 1) g0 (by omega) (if i < k then i else i - 1)).1
      have hmi : (i : Int) ∈ bo ll c ++ [(k : Int)] ↔ (i : Int) ∈ bo ll c := by
        rw [List.mem_append, List.mem_singleton]
        exact ⟨fun h => h.elim id (fun h2 => absurd h2 (by omega)), fun h => .inl h⟩
      by_cases hm : (i : Int) ∈ bo ll c
      · rw [if_pos hm] at h1
        rw [if_pos (hmi.2 hm), show ((1 : Nat) : Int) * p = p by simp]; omega
      · rw [if_neg hm] at h1
        rw [if_neg (fun h => hm (hmi.1 h)), show ((1 : Nat) : Int) * p = p by simp]; omega
theorem bnL_free {ll : List (List Int)} {p : Int} (h : tOk ll p) {i : Nat} (hi : i < ll.length) (hf : ∀ k, k < ll.length → (ll.getD k []).getD i 0 ≤ 0) : 0 ≤ (bnL ll p).getD i 0 := by
  rw [bnL_yes h, bnP_at _ _ _ _ _ hi, if_neg (Nat.not_lt_zero _), Int.add_zero]
  have h1 := bn_free h hi hf ll.length (Nat.le_refl _)
  have hm : (i : Int) ∈ bo ll ll.length := vo_mem (bo_vo h) (by rw [bo_len]; exact hi)
  rw [if_pos hm] at h1
  omega
def frB (ll : List (List Int)) (i k : Nat) : Bool := decide (∀ j, j < k → (ll.getD j []).getD i 0 ≤ 0)
theorem frB_yes {ll : List (List Int)} {i k : Nat} (h : frB ll i k = true) (hx : (ll.getD k []).getD i 0 ≤ 0) : frB ll i (k + 1) = true := by
  refine decide_eq_true fun j hj => ?_
  by_cases e : j = k
  · rw [e]; exact hx
  · exact of_decide_eq_true h j (by omega)
theorem frB_no {ll : List (List Int)} {i k : Nat} (hx : ¬ (ll.getD k []).getD i 0 ≤ 0) : frB ll i (k + 1) = false := decide_eq_false fun h => hx (h k (by omega))
theorem frB_out {ll : List (List Int)} {i k : Nat} (h : frB ll i k = false) : frB ll i (k + 1) = false := decide_eq_false fun h2 => by
  have := of_decide_eq_false h
  exact this fun j hj => h2 j (by omega)
set_option maxHeartbeats 1000000 in
theorem walkFnBidNets (w : World) (sa : Option Addr) (len cap : Nat) (h : Code w sa len cap) (hl : len ≤ maxLen) :
    Calls Try.prog 14 #[.slice sa len cap] w fun e w' => e = .returned (.bool true) ∧ Below w.heap.size w w' := by
  have hl' := hl
  unfold maxLen at hl'
  by_cases hbig : 1048576 < len
  · clear h hl
    go_enter Try.func14, Try.ntmps14
    go_wp2
    go_ret
    exact ⟨rfl, Below.refl _ _⟩
  · go_enter Try.func14, Try.ntmps14
    go_wp2_with fail
    refine (dDrawBidNets sa len cap w h hl).mono ?_
    rintro e w1 ⟨sb, cb, ll, hs, p, rfl, hM, l7, hrl, p0, p1, E1⟩
    have HM := hide hM.mst
    have HR := hide (show ∀ i, i < ll.length → (ll.getD i []).length ≤ 2000000 from fun i hi => Nat.le_trans (hrl i hi) (by omega))
    clear h hl hl' hbig hM hrl
    have HP1 := hide (fun w2 (e : Ext w1 w2) => implBN sb cb ll p w2 (HM.out.ext e) (by omega) HR.out)
    have HP2 := hide (fun w2 (e : Ext w1 w2) => specBN sb cb ll p w2 (HM.out.ext e) (by omega) HR.out)
    have hLl := bnL_len ll p
    have hEQ := fun sa ca sb cb w2 ha hb => equalInts_any sa sb (bnL ll p) (bnL ll p) ca cb w2 ha hb (by omega) (by omega)
    rw [decide_eq_true (rfl : bnL ll p = bnL ll p)] at hEQ
    have HEQ := hide hEQ
    clear hEQ
    by_cases hok : tOk ll p
    · have h12 := hok.1
      have hlen : (bnL ll p).length = ll.length := by rw [bnL_yes hok, bnP_len]
      have hsum := bnL_sum hok
      have HLR := hide (fun i hi => (hok.2 i hi).1)
      have HFR := hide (fun i (hi : i < ll.length) (hf : frB ll i ll.length = true) => bnL_free hok hi (of_decide_eq_true hf))
      have HBD := hide (fun i (hi : i < ll.length) => show -120000 ≤ (bnL ll p).getD i 0 ∧ (bnL ll p).getD i 0 ≤ 120000 by
        rw [bnL_yes hok, bnP_at _ _ _ _ _ hi, if_neg (Nat.not_lt_zero _), Int.add_zero]
        have := bnA_bd2 hok l7 p1 hi ll.length (Nat.le_refl _)
        omega)
      obtain ⟨L, hL⟩ : ∃ L, L = bnL ll p := ⟨_, rfl⟩; rw [← hL] at HP1 HP2 HEQ hlen hLl hsum HFR HBD
      have HT := hide (fun s c w2 (h : Lst w2 s L) => lawTotalT s c L.length L w2 h rfl (by omega) (fun i hi => HBD.out i (by omega)))
      rw [hlen, hsum, ← hlen] at HT
      have hne : ((L.length : Int) == 0) = false := by rw [beq_eq_false_iff_ne]; omega
      have HLEN := hide hlen; clear hlen
      clear hL hok hsum
      go_wp2_with fail; refine (HP1.out _ (Ext.refl _)).mono ?_; rintro e w2 ⟨s2, c2, rfl, R2, hb2⟩
      have E2 := Ext.of hb2
      go_wp2_with fail; refine (HP2.out _ E2).mono ?_; rintro e w3 ⟨s3, c3, rfl, R3, hb3⟩
      have E3 := Ext.of hb3
      have L2 := hide (R2.lst.ext E3)
      have L3 := hide R3.lst
      clear hb2 hb3 R2 R3
      go_wp2_with fail; refine (HEQ.out s2 c2 s3 c3 _ L2.out L3.out).mono ?_; rintro e w4 ⟨rfl, hb4⟩
      have E4 := Ext.of hb4
      clear hb4
      have L4 := hide (L2.out.ext E4)
      have EX := (E2.trans E3).trans E4
      clear L2 L3
      go_wp2
      go_loop [6] (fun i => ∃ c : Nat, c ≤ L.length ∧ i = .int .i64 c) (fun i => L.length - (intOf i).toNat)
      case atStart => exact ⟨0, Nat.zero_le _, rfl⟩
      case round =>
        obtain ⟨c, hc, rfl⟩ := hrel
        by_cases hlt : c < L.length
        · have hcl : c < ll.length := by have := HLEN.out; omega
          have hd0 : decide ((c : Int) < (L.length : Int)) = true := decide_eq_true (by omega)
          go_wp2
          go_loop [7, 8] (fun f i => ∃ k : Nat, k ≤ ll.length ∧ i = .int .i64 k ∧ f = .bool (frB ll c k)) (fun _ i => ll.length - (intOf i).toNat)
          case atStart => exact ⟨0, Nat.zero_le _, rfl, by rw [show frB ll c 0 = true from decide_eq_true fun j hj => absurd hj (Nat.not_lt_zero _)]⟩
          case round =>
            obtain ⟨k, hk, rfl, rfl⟩ := hrel
            by_cases hlk : k < ll.length
            · obtain ⟨g, off, si, ci, rfl, hg, c1, L1, hci⟩ := (HM.out.ext EX).at hlk
              have hlr := HLR.out k hlk
              have hcr : c < (ll.getD k []).length := by omega
              obtain ⟨g2, off2, rfl, hg2, c2'⟩ := L1.at hcr
              rw [hlr] at c1
              by_cases hf : frB ll c k = true
              · by_cases hx : (ll.getD k []).getD c 0 ≤ 0
                · have HN := hide (frB_yes hf hx)
                  rw [hf]
                  obtain ⟨x, hx0⟩ : ∃ x, x = (ll.getD k []).getD c 0 := ⟨_, rfl⟩; rw [← hx0] at c2' hx
                  have hd : decide (x ≤ 0) = true := decide_eq_true hx
                  clear hf hx0 hlr hcr L1 hci
                  go_wp2
                  go_round
                  case rel => exact ⟨k + 1, by omega, by go_num, by rw [HN.out]⟩
                  case measure => simp [intOf]; omega
                · have HN := hide (frB_no (i := c) hx)
                  rw [hf]
                  obtain ⟨x, hx0⟩ : ∃ x, x = (ll.getD k []).getD c 0 := ⟨_, rfl⟩; rw [← hx0] at c2' hx
                  have hd : decide (x ≤ 0) = false := decide_eq_false hx
                  clear hf hx0 hlr hcr L1 hci
                  go_wp2
                  go_round
                  case rel => exact ⟨k + 1, by omega, by go_num, by rw [HN.out]⟩
                  case measure => simp [intOf]; omega
              · rw [Bool.not_eq_true] at hf
                have HN := hide (frB_out hf)
                rw [hf]
                clear hf hlr hcr L1 hci c2' c1
                go_wp2
                go_round
                case rel => exact ⟨k + 1, by omega, by go_num, by rw [HN.out]⟩
                case measure => simp [intOf]; omega
            · obtain rfl : k = ll.length := by omega
              obtain ⟨g2, off2, rfl, hg2, e2⟩ := L4.out.at hlt
              by_cases hf : frB ll c ll.length = true
              · have hge := HFR.out c hcl hf
                rw [hf]
                obtain ⟨x, hx0⟩ : ∃ x, x = L.getD c 0 := ⟨_, rfl⟩; rw [← hx0] at e2 hge
                have hd : decide (x < 0) = false := decide_eq_false (by omega)
                clear hf hx0
                go_wp2
                go_round
                case rel => exact ⟨c + 1, by omega, by go_num⟩
                case measure => simp [intOf]; omega
              · rw [Bool.not_eq_true] at hf
                rw [hf]
                clear hf
                go_wp2
                go_round
                case rel => exact ⟨c + 1, by omega, by go_num⟩
                case measure => simp [intOf]; omega
        · obtain rfl : c = L.length := by omega
          go_wp2_with fail; refine (HT.out s2 c2 _ L4.out).mono ?_; rintro e w' ⟨rfl, rfl⟩
          have E := E1.trans EX
          go_wp2
          go_ret
          exact ⟨rfl, E⟩
    · have hnil := bnL_no hok
      rw [hnil] at HP1 HP2 HEQ
      clear hok hnil hLl
      go_wp2_with fail; refine (HP1.out _ (Ext.refl _)).mono ?_; rintro e w2 ⟨s2, c2, rfl, R2, hb2⟩
      have E2 := Ext.of hb2
      go_wp2_with fail; refine (HP2.out _ E2).mono ?_; rintro e w3 ⟨s3, c3, rfl, R3, hb3⟩
      have E3 := Ext.of hb3
      have L2 := hide (R2.lst.ext E3)
      have L3 := hide R3.lst
      clear hb2 hb3 R2 R3
      go_wp2_with fail; refine (HEQ.out s2 c2 s3 c3 _ L2.out L3.out).mono ?_; rintro e w4 ⟨rfl, hb4⟩
      have E4 := Ext.of hb4
      clear hb4
      go_wp2_with fail; refine (HP2.out _ ((E2.trans E3).trans E4)).mono ?_; rintro e w5 ⟨s5, c5, rfl, R5, hb5⟩
      have E5 := Ext.of hb5
      have L5 := hide R5.lst
      have L6 := hide ((L2.out.ext E4).ext E5)
      clear hb5 R5
      go_wp2_with fail; refine (HEQ.out s2 c2 s5 c5 _ L6.out L5.out).mono ?_; rintro e w6 ⟨rfl, hb6⟩
      have E6 := Ext.of hb6
      clear hb6
      have E := E1.trans (((E2.trans E3).trans E4).trans (E5.trans E6))
      go_wp2
      go_ret
      exact ⟨rfl, E⟩
end Go.Proofs.Ythbkkbcbhhmhoab
