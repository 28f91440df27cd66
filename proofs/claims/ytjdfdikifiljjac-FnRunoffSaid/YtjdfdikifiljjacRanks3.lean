/- Chapter 2: which choice lists prefer: contracts of the program and of the model. -/
import Derived.Test.YtjdfdikifiljjacRanks2
namespace Go.Proofs.Ytjdfdikifiljjac
open Go.ChangeShapes Go.WideShapes Go.ChangeAt Go.RowKit Go.Joins Go.Sort
set_option linter.unusedVariables false

/-- a list has one choice before another one -/
def bef (r : List Int) (a b : Int) : Bool := decide (plc r a < plc r b)
def btK (rk : List (List Int)) (a b : Int) : Nat → Nat
  | 0 => 0
  | k + 1 => btK rk a b k + if bef (rk.getD k []) a b = true then 1 else 0
theorem btK_yes {rk : List (List Int)} {a b : Int} {k : Nat} (h : bef (rk.getD k []) a b = true) : btK rk a b (k + 1) = btK rk a b k + 1 := by show btK rk a b k + _ = _; rw [if_pos h]
theorem btK_no {rk : List (List Int)} {a b : Int} {k : Nat} (h : bef (rk.getD k []) a b = false) : btK rk a b (k + 1) = btK rk a b k := by
  show btK rk a b k + _ = _; rw [if_neg (by rw [h]; simp)]; rfl
theorem btK_le (rk : List (List Int)) (a b : Int) (k : Nat) : btK rk a b k ≤ k := by
  induction k with
  | zero => exact Nat.le_refl _
  | succ k ih => unfold btK; split <;> omega
def bt (rk : List (List Int)) (a b : Int) : Nat := btK rk a b rk.length
theorem bt_le (rk : List (List Int)) (a b : Int) : bt rk a b ≤ rk.length := btK_le _ _ _ _
/-- a and b are different choices -/
def chs (rk : List (List Int)) (a b : Int) : Prop := a ≠ b ∧ (0 ≤ a ∧ a ≤ ((rk.getD 0 []).length : Int) - 1) ∧ (0 ≤ b ∧ b ≤ ((rk.getD 0 []).length : Int) - 1)
instance (rk : List (List Int)) (a b : Int) : Decidable (chs rk a b) := by unfold chs; infer_instance
def prf (rk : List (List Int)) (a b : Int) : Int := if vr rk = true ∧ chs rk a b then (bt rk a b : Int) else -1
theorem prf_yes {rk : List (List Int)} {a b : Int} (h : vr rk = true) (hc : chs rk a b) : prf rk a b = bt rk a b := if_pos ⟨h, hc⟩
theorem prf_no {rk : List (List Int)} {a b : Int} (h : ¬ (vr rk = true ∧ chs rk a b)) : prf rk a b = -1 := if_neg h
theorem vmB_two (a b : Int) (n : Nat) : vmB [a, b] n = true ↔ a ≠ b ∧ (0 ≤ a ∧ a ≤ (n : Int) - 1) ∧ (0 ≤ b ∧ b ≤ (n : Int) - 1) := by
  rw [vmB_iff]
  simp only [List.mem_cons, List.not_mem_nil, or_false, forall_eq_or_imp, forall_eq, List.nodup_cons, List.nodup_nil, not_false_eq_true, and_true]
  exact ⟨fun ⟨⟨h1, h2⟩, h3⟩ => ⟨h3, h1, h2⟩, fun ⟨h3, h1, h2⟩ => ⟨⟨h1, h2⟩, h3⟩⟩
/-- the facts of valid lists -/
theorem vr_row {rk : List (List Int)} (h : vr rk = true) {i : Nat} (hi : i < rk.length) : (rk.getD i []).length = (rk.getD 0 []).length ∧ (∀ x ∈ rk.getD i [], 0 ≤ x ∧ x ≤ ((rk.getD 0 []).length : Int) - 1) ∧ (rk.getD i []).Nodup := by
  obtain ⟨_, _, _, _, h5⟩ := vr_iff.1 h
  obtain ⟨e, hv⟩ := rowOk_iff.1 (h5 i hi)
  exact ⟨e, vmB_iff.1 hv⟩
theorem vr_mem {rk : List (List Int)} (h : vr rk = true) {i : Nat} (hi : i < rk.length) {x : Int} (h0 : 0 ≤ x) (h1 : x ≤ ((rk.getD 0 []).length : Int) - 1) : x ∈ rk.getD i [] := by
  obtain ⟨e, hx, hn⟩ := vr_row h hi
  obtain ⟨m, rfl⟩ := Int.eq_ofNat_of_zero_le h0
  exact (full_len hn hx).2 e m (by omega)
theorem plc_ne {r : List Int} {a b : Int} (ha : a ∈ r) (hb : b ∈ r) (hne : a ≠ b) : plc r a ≠ plc r b := by
  unfold plc
  rw [if_pos ha, if_pos hb]
  intro e
  have e2 : r.idxOf a = r.idxOf b := by omega
  have h1 := List.getElem_idxOf (List.idxOf_lt_length_iff.2 ha)
  have h2 := List.getElem_idxOf (List.idxOf_lt_length_iff.2 hb)
  apply hne
  rw [← h1, ← h2]
  congr 1
theorem btK_sum {rk : List (List Int)} (h : vr rk = true) {a b : Int} (hc : chs rk a b) : ∀ k, k ≤ rk.length → btK rk a b k + btK rk b a k = k := by
  intro k
  induction k with
  | zero => intro _; rfl
  | succ k ih =>
    intro hk
    have h1 := ih (by omega)
    have h2 := plc_ne (vr_mem h (show k < rk.length by omega) hc.2.1.1 hc.2.1.2) (vr_mem h (show k < rk.length by omega) hc.2.2.1 hc.2.2.2) hc.1
    by_cases hlt : plc (rk.getD k []) a < plc (rk.getD k []) b
    · rw [btK_yes (decide_eq_true hlt), btK_no (decide_eq_false (by omega))]; omega
    · rw [btK_no (decide_eq_false hlt), btK_yes (decide_eq_true (by omega))]; omega
theorem bt_sum {rk : List (List Int)} (h : vr rk = true) {a b : Int} (hc : chs rk a b) : bt rk a b + bt rk b a = rk.length := btK_sum h hc _ (Nat.le_refl _)
theorem chs.symm {rk : List (List Int)} {a b : Int} (h : chs rk a b) : chs rk b a := ⟨fun e => h.1 e.symm, h.2.2, h.2.1⟩

theorem implChoice (sa : Option Addr) (cap n : Nat) (rk : List (List Int)) (x : Int) (w : World) (h : Mst w sa rk) (h0 : 0 < rk.length) (hl : (rk.getD 0 []).length ≤ 2000000) (hn : rk.length = n) :
    Calls Try.prog 56 #[.slice sa n cap, .int .i64 x] w (Same (.bool (inr x 0 (((rk.getD 0 []).length : Int) - 1))) w) := by
  subst hn
  obtain ⟨g, off, s0, k0, rfl, hg, c0, _, _⟩ := h.at h0
  rw [Nat.add_zero] at c0
  generalize (rk.getD 0 []).length = ch at c0 hl ⊢
  clear h
  go_enter Try.func56, Try.ntmps56
  go_wp2_with fail; refine (implInr _ _ _ _).mono ?_; rintro e w' ⟨rfl, rfl⟩
  go_wp2
  go_ret
  exact ⟨rfl, rfl⟩
set_option maxHeartbeats 400000 in
theorem implPlaceOf (sa : Option Addr) (cap n : Nat) (l : List Int) (x : Int) (w : World) (h : Lst w sa l) (hn : l.length = n) (hl : n ≤ 2000000) :
    Calls Try.prog 57 #[.slice sa n cap, .int .i64 x] w (Same (.int .i64 (plc l x)) w) := by
  subst hn
  have H := hide h; clear h
  go_enter Try.func57, Try.ntmps57
  go_wp2
  go_loop [9] (fun i => ∃ c : Nat, c ≤ l.length ∧ i = .int .i64 c ∧ Hid (x ∉ l.take c)) (fun i => l.length - (intOf i).toNat)
  case atStart => exact ⟨0, Nat.zero_le _, rfl, show _ ∉ _ by simp⟩
  case round =>
    obtain ⟨c, hc, rfl, HN⟩ := hrel
    by_cases hlt : c < l.length
    · obtain ⟨g, off, rfl, hg, c1⟩ := H.out.at hlt
      by_cases he : l.getD c 0 = x
      · have HF := hide (show (c : Int) = plc l x by
          have := HN.out; rw [← he] at this ⊢; exact (plc_at hlt this).symm)
        rw [he] at c1
        clear he
        go_wp2
        go_ret
        exact Same.int HF.out
      · have HN2 := hide (show x ∉ l.take (c + 1) by
          rw [take_snoc l c hlt, List.mem_append, List.mem_singleton]
          rintro (h | h)
          · exact HN.out h
          · exact he h.symm)
        obtain ⟨y, hy⟩ : ∃ y, y = l.getD c 0 := ⟨_, rfl⟩; rw [← hy] at c1 he
        have hd : ((y : Int) == x) = false := by rw [beq_eq_false_iff_ne]; exact he
        clear hy he
        go_wp2
        go_round
        case rel => exact ⟨c + 1, by omega, by go_num, HN2⟩
        case measure => simp [intOf]; omega
    · have HF := hide (show (-1 : Int) = plc l x by
        have := HN.out; rw [List.take_of_length_le (by omega)] at this; exact (plc_out this).symm)
      go_wp2
      go_ret
      exact Same.int HF.out
set_option maxHeartbeats 1000000 in
theorem specBeats (sa : Option Addr) (cap n : Nat) (rk : List (List Int)) (a b : Int) (w : World) (h : Mst w sa rk) (hn : rk.length = n) (hl : rk.length ≤ 2000000) (hr : ∀ i, i < rk.length → (rk.getD i []).length ≤ 2000000) :
    Calls Try.prog 55 #[.slice sa n cap, .int .i64 a, .int .i64 b] w (Ret (.int .i64 (bt rk a b)) w) := by
  subst hn
  have H := hide h; clear h
  have HR := hide hr; clear hr
  go_enter Try.func55, Try.ntmps55
  go_wp2
  go_loopw [7, 8] (fun n i wr => ∃ k q : Nat, k ≤ rk.length ∧ i = .int .i64 k ∧ n = .int .i64 q ∧ Hid (q = btK rk a b k) ∧ Ext w wr) (fun _ i _ => rk.length - (intOf i).toNat)
  case atStart => exact ⟨0, 0, Nat.zero_le _, rfl, rfl, rfl, Ext.refl _⟩
  case round =>
    obtain ⟨k, q, hk, rfl, rfl, HQ, hE⟩ := hrel
    have hq : q ≤ k := by rw [HQ.out]; exact btK_le _ _ _ _
    by_cases hlt : k < rk.length
    · obtain ⟨g, off, si, ci, rfl, hg, c1, L1, _⟩ := (H.out.ext hE).at hlt
      have hn := HR.out k hlt
      by_cases hb : bef (rk.getD k []) a b = true
      · have HQ2 := hide (show q + 1 = btK rk a b (k + 1) by rw [btK_yes hb, HQ.out])
        have hd : decide (plc (rk.getD k []) a < plc (rk.getD k []) b) = true := hb
        clear hb
        obtain ⟨x, hx⟩ : ∃ x, x = rk.getD k [] := ⟨_, rfl⟩; rw [← hx] at c1 L1 hn hd
        clear hx
        have r1 := cell_regrown c1
        have HL := hide L1; clear L1
        clear c1
        go_wp2
        refine wp_region_quiet_below (by kernel_rfl) (by kernel_rfl) ?_
        repeat (go_big_quiet_step ((first | (go_at_call 77; exact Same.quiet (specPlaceIn _ _ _ x _ _ (HL.out.ext (below_regrown _ _ _)) rfl hn)))))
        refine wpQuiet_nil ?_; intro w9 hq; have E9 := Ext.class hq; clear hq
        go_wp2
        go_roundw
        case rel => exact ⟨k + 1, q + 1, by omega, by go_num, by go_num, HQ2, hE.trans E9⟩
        case measure => simp [intOf]; omega
      · rw [Bool.not_eq_true] at hb
        have HQ2 := hide (show q = btK rk a b (k + 1) by rw [btK_no hb, HQ.out])
        have hd : decide (plc (rk.getD k []) a < plc (rk.getD k []) b) = false := hb
        clear hb
        obtain ⟨x, hx⟩ : ∃ x, x = rk.getD k [] := ⟨_, rfl⟩; rw [← hx] at c1 L1 hn hd
        clear hx
        have r1 := cell_regrown c1
        have HL := hide L1; clear L1
        clear c1
        go_wp2
        refine wp_region_quiet_below (by kernel_rfl) (by kernel_rfl) ?_
        repeat (go_big_quiet_step ((first | (go_at_call 77; exact Same.quiet (specPlaceIn _ _ _ x _ _ (HL.out.ext (below_regrown _ _ _)) rfl hn)))))
        refine wpQuiet_nil ?_; intro w9 hq; have E9 := Ext.class hq; clear hq
        go_wp2
        go_roundw
        case rel => exact ⟨k + 1, q, by omega, by go_num, rfl, HQ2, hE.trans E9⟩
        case measure => simp [intOf]; omega
    · obtain rfl : k = rk.length := by omega
      have HF := hide (show (q : Int) = (bt rk a b : Int) by rw [HQ.out]; rfl)
      go_wp2
      go_ret
      exact Ret.int HF.out hE
set_option maxHeartbeats 1000000 in
theorem specPrefer (sa : Option Addr) (cap : Nat) (rk : List (List Int)) (a b : Int) (w : World) (h : Mst w sa rk) (hl : rk.length ≤ 2000000) (hr : ∀ i, i < rk.length → (rk.getD i []).length ≤ 2000000) :
    Calls Try.prog 22 #[.slice sa rk.length cap, .int .i64 a, .int .i64 b] w (Ret (.int .i64 (prf rk a b)) w) := by
  have H := hide h; clear h
  have HR := hide hr; clear hr
  by_cases hv : vr rk = true
  · obtain ⟨h1, h2, h3, h4, _⟩ := vr_iff.1 hv
    have HVM := hide (vmB_two a b (rk.getD 0 []).length)
    by_cases hm : vmB [a, b] (rk.getD 0 []).length = true
    · have HF := hide (prf_yes hv (HVM.out.1 hm))
      go_enter Try.func22, Try.ntmps22
      go_wp2_with fail; refine (Ret.eqB (specvR _ _ _ _ H.out hl HR.out) hv).mono ?_; rintro e w1 ⟨rfl, E1⟩
      have H1 := hide (H.out.ext E1)
      obtain ⟨g, off, s0, k0, rfl, hg, c0, _, _⟩ := ((H1.out.ext ((Ext.refl w1).alloc (.cells #[.int .i64 a, .int .i64 b] 3))).at (i := 0) (by omega))
      rw [Nat.add_zero] at c0
      obtain ⟨ch, hch⟩ : ∃ ch, ch = (rk.getD 0 []).length := ⟨_, rfl⟩; rw [← hch] at c0 hm h3 h4
      clear hch
      have hA : Arr (w1.alloc (.cells #[.int .i64 a, .int .i64 b] 3)) w1.heap.size [a, b] := Arr.new w1 [a, b]
      go_wp2_with fail; refine (Ret.eqB (specVM (some ⟨w1.heap.size, 0, none⟩) 2 [a, b] ch _ hA.lst (by simp) (by simp) (by omega)) hm).mono ?_; rintro e w2 ⟨rfl, E2⟩
      have E2' := ((Ext.refl w1).alloc _).trans E2
      go_wp2_with fail; refine (specBeats _ _ _ rk _ _ _ (H1.out.ext E2') rfl hl HR.out).mono ?_; rintro e w3 ⟨rfl, E3⟩
      go_wp2
      go_ret
      exact Ret.int HF.out.symm ((E1.trans E2').trans E3)
    · have HF := hide (prf_no (rk := rk) (a := a) (b := b) fun h => hm (HVM.out.2 h.2))
      rw [Bool.not_eq_true] at hm
      go_enter Try.func22, Try.ntmps22
      go_wp2_with fail; refine (Ret.eqB (specvR _ _ _ _ H.out hl HR.out) hv).mono ?_; rintro e w1 ⟨rfl, E1⟩
      have H1 := hide (H.out.ext E1)
      obtain ⟨g, off, s0, k0, rfl, hg, c0, _, _⟩ := ((H1.out.ext ((Ext.refl w1).alloc (.cells #[.int .i64 a, .int .i64 b] 3))).at (i := 0) (by omega))
      rw [Nat.add_zero] at c0
      obtain ⟨ch, hch⟩ : ∃ ch, ch = (rk.getD 0 []).length := ⟨_, rfl⟩; rw [← hch] at c0 hm h3 h4
      clear hch
      have hA : Arr (w1.alloc (.cells #[.int .i64 a, .int .i64 b] 3)) w1.heap.size [a, b] := Arr.new w1 [a, b]
      go_wp2_with fail; refine (Ret.eqB (specVM (some ⟨w1.heap.size, 0, none⟩) 2 [a, b] ch _ hA.lst (by simp) (by simp) (by omega)) hm).mono ?_; rintro e w2 ⟨rfl, E2⟩
      go_wp2
      go_ret
      exact Ret.int HF.out.symm (E1.trans (((Ext.refl w1).alloc _).trans E2))
  · have HF := hide (prf_no (rk := rk) (a := a) (b := b) fun h => hv h.1)
    rw [Bool.not_eq_true] at hv
    go_enter Try.func22, Try.ntmps22
    go_wp2_with fail; refine (Ret.eqB (specvR _ _ _ _ H.out hl HR.out) hv).mono ?_; rintro e w1 ⟨rfl, E1⟩
    go_wp2
    go_ret
    exact Ret.int HF.out.symm E1
set_option maxHeartbeats 1000000 in
theorem implPrefer (sa : Option Addr) (cap : Nat) (rk : List (List Int)) (a b : Int) (w : World) (h : Mst w sa rk) (hl : rk.length ≤ 2000000) (hr : ∀ i, i < rk.length → (rk.getD i []).length ≤ 2000000) :
    Calls Try.prog 23 #[.slice sa rk.length cap, .int .i64 a, .int .i64 b] w (Same (.int .i64 (prf rk a b)) w) := by
  have H := hide h; clear h
  have HR := hide hr; clear hr
  by_cases hv : vr rk = true
  · obtain ⟨h1, h2, h3, h4, _⟩ := vr_iff.1 hv
    have HV := hide hv
    have CA := fun w sa cap (h : Mst w sa rk) => implChoice sa cap rk.length rk a w h (by omega) (by omega) rfl
    have CB := fun w sa cap (h : Mst w sa rk) => implChoice sa cap rk.length rk b w h (by omega) (by omega) rfl
    by_cases hab : a = b
    · have HF := hide (prf_no (rk := rk) (a := a) (b := b) fun h => h.2.1 hab)
      have hd : (a == b) = true := by rw [beq_iff_eq]; exact hab
      clear hab
      go_enter Try.func23, Try.ntmps23
      go_wp2_with fail; refine (Same.eqB (implVR _ _ _ _ H.out hl HR.out) hv).mono ?_; rintro e w' ⟨rfl, rfl⟩
      go_wp2
      go_ret
      exact Same.int HF.out.symm
    · have hd : (a == b) = false := by rw [beq_eq_false_iff_ne]; exact hab
      have HN := hide hab
      clear hab
      by_cases ha : inr a 0 (((rk.getD 0 []).length : Int) - 1) = true
      · by_cases hb : inr b 0 (((rk.getD 0 []).length : Int) - 1) = true
        · have HF := hide (prf_yes hv (b := b) (a := a) ⟨HN.out, inr_iff.1 ha, inr_iff.1 hb⟩)
          go_enter Try.func23, Try.ntmps23
          go_wp2_with fail; refine (Same.eqB (implVR _ _ _ _ H.out hl HR.out) hv).mono ?_; rintro e w' ⟨rfl, rfl⟩
          go_wp2_with fail; refine (Same.eqB (CA _ _ _ H.out) ha).mono ?_; rintro e w' ⟨rfl, rfl⟩
          go_wp2_with fail; refine (Same.eqB (CB _ _ _ H.out) hb).mono ?_; rintro e w' ⟨rfl, rfl⟩
          clear CA CB ha hb
          go_wp2
          go_loop [7, 32] (fun n i => ∃ k q : Nat, k ≤ rk.length ∧ i = .int .i64 k ∧ n = .int .i64 q ∧ Hid (q = btK rk a b k)) (fun _ i => rk.length - (intOf i).toNat)
          case atStart => exact ⟨0, 0, Nat.zero_le _, rfl, rfl, rfl⟩
          case round =>
            obtain ⟨k, q, hk, rfl, rfl, HQ⟩ := hrel
            have hq : q ≤ k := by rw [HQ.out]; exact btK_le _ _ _ _
            by_cases hlt : k < rk.length
            · obtain ⟨g, off, si, ci, rfl, hg, c1, L1, _⟩ := H.out.at hlt
              have hn := HR.out k hlt
              by_cases hb : bef (rk.getD k []) a b = true
              · have HQ2 := hide (show q + 1 = btK rk a b (k + 1) by rw [btK_yes hb, HQ.out])
                have hd : decide (plc (rk.getD k []) a < plc (rk.getD k []) b) = true := hb
                clear hb
                obtain ⟨x, hx⟩ : ∃ x, x = rk.getD k [] := ⟨_, rfl⟩; rw [← hx] at c1 L1 hn hd
                clear hx
                have HL := hide L1; clear L1
                go_wp2_with fail; refine (implPlaceOf _ _ _ x _ _ HL.out rfl hn).mono ?_; rintro e w' ⟨rfl, rfl⟩
                go_wp2_with fail; refine (implPlaceOf _ _ _ x _ _ HL.out rfl hn).mono ?_; rintro e w' ⟨rfl, rfl⟩
                go_wp2
                go_round
                case rel => exact ⟨k + 1, q + 1, by omega, by go_num, by go_num, HQ2⟩
                case measure => simp [intOf]; omega
              · rw [Bool.not_eq_true] at hb
                have HQ2 := hide (show q = btK rk a b (k + 1) by rw [btK_no hb, HQ.out])
                have hd : decide (plc (rk.getD k []) a < plc (rk.getD k []) b) = false := hb
                clear hb
                obtain ⟨x, hx⟩ : ∃ x, x = rk.getD k [] := ⟨_, rfl⟩; rw [← hx] at c1 L1 hn hd
                clear hx
                have HL := hide L1; clear L1
                go_wp2_with fail; refine (implPlaceOf _ _ _ x _ _ HL.out rfl hn).mono ?_; rintro e w' ⟨rfl, rfl⟩
                go_wp2_with fail; refine (implPlaceOf _ _ _ x _ _ HL.out rfl hn).mono ?_; rintro e w' ⟨rfl, rfl⟩
                go_wp2
                go_round
                case rel => exact ⟨k + 1, q, by omega, by go_num, rfl, HQ2⟩
                case measure => simp [intOf]; omega
            · obtain rfl : k = rk.length := by omega
              have HG := hide (show (q : Int) = prf rk a b by rw [HF.out, HQ.out]; rfl)
              go_wp2
              go_ret
              exact Same.int HG.out
        · have HF := hide (prf_no (rk := rk) (a := a) (b := b) fun h => hb (inr_iff.2 h.2.2.2))
          rw [Bool.not_eq_true] at hb
          go_enter Try.func23, Try.ntmps23
          go_wp2_with fail; refine (Same.eqB (implVR _ _ _ _ H.out hl HR.out) hv).mono ?_; rintro e w' ⟨rfl, rfl⟩
          go_wp2_with fail; refine (Same.eqB (CA _ _ _ H.out) ha).mono ?_; rintro e w' ⟨rfl, rfl⟩
          go_wp2_with fail; refine (Same.eqB (CB _ _ _ H.out) hb).mono ?_; rintro e w' ⟨rfl, rfl⟩
          clear CA CB ha hb
          go_wp2
          go_ret
          exact Same.int HF.out.symm
      · have HF := hide (prf_no (rk := rk) (a := a) (b := b) fun h => ha (inr_iff.2 h.2.2.1))
        rw [Bool.not_eq_true] at ha
        go_enter Try.func23, Try.ntmps23
        go_wp2_with fail; refine (Same.eqB (implVR _ _ _ _ H.out hl HR.out) hv).mono ?_; rintro e w' ⟨rfl, rfl⟩
        go_wp2_with fail; refine (Same.eqB (CA _ _ _ H.out) ha).mono ?_; rintro e w' ⟨rfl, rfl⟩
        clear CA CB ha
        go_wp2
        go_ret
        exact Same.int HF.out.symm
  · have HF := hide (prf_no (rk := rk) (a := a) (b := b) fun h => hv h.1)
    rw [Bool.not_eq_true] at hv
    go_enter Try.func23, Try.ntmps23
    go_wp2_with fail; refine (Same.eqB (implVR _ _ _ _ H.out hl HR.out) hv).mono ?_; rintro e w' ⟨rfl, rfl⟩
    go_wp2
    go_ret
    exact Same.int HF.out.symm
end Go.Proofs.Ytjdfdikifiljjac
