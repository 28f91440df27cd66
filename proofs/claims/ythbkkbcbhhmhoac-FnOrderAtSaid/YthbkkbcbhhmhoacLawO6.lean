/- Chapter 3: orders of numbers, one after another, in plain numbers, and the walk of their law, at drawn arguments. -/
import Derived.Test.YthbkkbcbhhmhoacLawO1
import Derived.Test.YthbkkbcbhhmhoacLawO5
namespace Go.Proofs.Ythbkkbcbhhmhoac
open Go.ChangeShapes Go.WideShapes Go.ChangeAt Go.RowKit Go.Joins Go.Sort
set_option linter.unusedVariables false

theorem filK_inc (p : Nat → Bool) (N : Nat) : (filK p N).Pairwise (· < ·) := by
  induction N with
  | zero => exact List.Pairwise.nil
  | succ N ih =>
    by_cases h : p N = true
    · rw [← filK_yes h, List.pairwise_append]
      refine ⟨ih, List.pairwise_singleton _ _, fun x hx y hy => ?_⟩
      rw [List.mem_singleton.1 hy]
      exact (filK_lt hx).2
    · rw [Bool.not_eq_true] at h
      rw [← filK_no h]; exact ih
theorem inc_at {L : List Int} (h : L.Pairwise (· < ·)) {i j : Nat} (hij : i < j) (hj : j < L.length) : L.getD i 0 < L.getD j 0 := by
  have := List.pairwise_iff_getElem.1 h i j (by omega) hj hij
  rw [List.getD_eq_getElem?_getD, List.getD_eq_getElem?_getD, List.getElem?_eq_getElem hj, List.getElem?_eq_getElem (by omega)]
  exact this
theorem oLs_at (m n : Nat) : ∀ M c, c < M → (oLs m n M).getD c 0 = oEl m n c := by
  intro M
  induction M with
  | zero => intro c h; omega
  | succ M ih =>
    intro c h
    show (oLs m n M ++ [oEl m n M]).getD c 0 = _
    by_cases e : c = M
    · subst e
      rw [List.getD_eq_getElem?_getD, List.getElem?_append_right (by rw [oLs_len]; exact Nat.le_refl _), oLs_len, Nat.sub_self]
      generalize oEl m n c = z
      rfl
    · rw [List.getD_eq_getElem?_getD, List.getElem?_append_left (by rw [oLs_len]; omega), ← List.getD_eq_getElem?_getD, ih c (by omega)]
theorem oLs_inv {m n : Nat} (hm : m ≤ 8) (hn : n < fac m) : ∀ c, c ≤ m → (oLs m n c).Nodup ∧ ∀ x ∈ oLs m n c, (0 ≤ x ∧ x ≤ (m : Int) - 1) ∧ x ∉ mems (oSt m n c).1 := by
  intro c
  induction c with
  | zero => 
    intro _
    refine ⟨List.nodup_nil, fun x hx => ?_⟩
    have hx' : x ∈ ([] : List Int) := hx
    exact absurd hx' List.not_mem_nil
  | succ c ih =>
    intro hc
    obtain ⟨h1, h2⟩ := ih (by omega)
    obtain ⟨k, x, _, hk, hx, hex, hxm, _, _, hms, _⟩ := oSt_step hm hn (show c < m by omega)
    have hlen := (oSt_facts hm hn c (by omega)).1
    have hkl : k < (mems (oSt m n c).1).length := by rw [hlen]; exact hk
    have hxin : (x : Int) ∈ mems (oSt m n c).1 := by rw [← hx]; exact getD_mem hkl
    have hnd : (mems (oSt m n c).1).Nodup := filK_nd _ _
    have hsub : ∀ y, y ∈ mems (oSt m n (c + 1)).1 → y ∈ mems (oSt m n c).1 ∧ y ≠ (x : Int) := by
      intro y hy
      rw [hms] at hy
      have e : mems (oSt m n c).1 = (mems (oSt m n c).1).take k ++ (x : Int) :: (mems (oSt m n c).1).drop (k + 1) := by
        rw [← hx, ← drop_head hkl, List.take_append_drop]
      have hnd2 := hnd
      rw [e, List.nodup_append] at hnd2
      obtain ⟨_, n2, n3⟩ := hnd2
      rcases List.mem_append.1 hy with h | h
      · exact ⟨List.mem_of_mem_take h, n3 _ h _ (List.mem_cons_self ..)⟩
      · exact ⟨List.mem_of_mem_drop h, fun e2 => (List.nodup_cons.1 n2).1 (e2 ▸ h)⟩
    show (oLs m n c ++ [oEl m n c]).Nodup ∧ ∀ y ∈ oLs m n c ++ [oEl m n c], _
    rw [hex]
    refine ⟨?_, fun y hy => ?_⟩
    · rw [List.nodup_append]
      refine ⟨h1, by simp, fun a ha b hb e => ?_⟩
      rw [List.mem_singleton.1 hb] at e
      exact (h2 a ha).2 (e ▸ hxin)
    · rcases List.mem_append.1 hy with h | h
      · exact ⟨(h2 y h).1, fun h3 => (h2 y h).2 (hsub y h3).1⟩
      · rw [List.mem_singleton.1 h]
        exact ⟨⟨by omega, by omega⟩, fun h3 => (hsub _ h3).2 rfl⟩
theorem lft_oSt {m n : Nat} : ∀ c, c ≤ m → lft (oLs m n m) c = (oSt m n c).1 := by
  intro c
  induction c with
  | zero => intro _; show 2 ^ (oLs m n m).length - 1 = 2 ^ m - 1; rw [oLs_len]
  | succ c ih =>
    intro hc
    show mns (lft (oLs m n m) c) ((oLs m n m).getD c 0).toNat = mns (oSt m n c).1 (oEl m n c).toNat
    rw [ih (by omega), oLs_at m n m c (by omega)]
theorem bfr_oSt {m n : Nat} (hm : m ≤ 8) (hn : n < fac m) {c : Nat} (hc : c < m) : bfr (oLs m n m) c = (oSt m n c).2 / fac (m - 1 - c) := by
  obtain ⟨k, x, e, hk, hx, hex, _⟩ := oSt_step hm hn hc
  have hlen := (oSt_facts hm hn c (by omega)).1
  unfold bfr
  have hnd : (mems (oSt m n c).1).Nodup := filK_nd _ _
  rw [lft_oSt c (by omega), oLs_at m n m c hc, hex, ← hx, plc_nodup hnd (by rw [hlen]; exact hk), e, Int.toNat_natCast]
theorem rk_oSt {m n : Nat} (hm : m ≤ 8) (hn : n < fac m) : ∀ c, c ≤ m → rkI (oLs m n m) c + (oSt m n c).2 = n := by
  intro c
  induction c with
  | zero => intro _; show 0 + n = n; omega
  | succ c ih =>
    intro hc
    have h1 := ih (by omega)
    show rkI (oLs m n m) c + bfr (oLs m n m) c * fac ((oLs m n m).length - 1 - c) + (oSt m n c).2 % fac (m - 1 - c) = n
    rw [bfr_oSt hm hn (show c < m by omega), oLs_len]
    have := Nat.div_add_mod (oSt m n c).2 (fac (m - 1 - c))
    rw [Nat.mul_comm] at this
    omega
theorem ord_ok {n m : Int} (h : oOk n m) : rOk (ordL n m) ∧ ((ordL n m).length : Int) = m ∧ rnk (ordL n m) = n := by
  obtain ⟨m, rfl⟩ := Int.eq_ofNat_of_zero_le (show 0 ≤ m by have := h.1; omega)
  obtain ⟨n, rfl⟩ := Int.eq_ofNat_of_zero_le h.2.1
  obtain ⟨hm8, hm1, hnf⟩ := oOk_nat h
  rw [ordL_yes h]
  obtain ⟨i1, i2⟩ := oLs_inv hm8 hnf m (Nat.le_refl _)
  have hr : rOk (oLs m n m) := by
    refine ⟨vo_iff.2 ⟨by rw [oLs_len]; omega, vmB_iff.2 ⟨fun x hx => ?_, i1⟩⟩, by rw [oLs_len]; exact hm8⟩
    rw [oLs_len]; exact (i2 x hx).1
  refine ⟨hr, by rw [oLs_len], ?_⟩
  have h1 := rk_oSt hm8 hnf m (Nat.le_refl _)
  have h2 := (oSt_facts hm8 hnf m (Nat.le_refl _)).2.1
  rw [Nat.sub_self] at h2
  have h3 : fac 0 = 1 := rfl
  rw [rnk_yes hr, oLs_len]
  omega
theorem lft_pre {a b : List Int} (hl : a.length = b.length) : ∀ k, (∀ i, i < k → a.getD i 0 = b.getD i 0) → lft a k = lft b k ∧ rkI a k = rkI b k := by
  intro k
  induction k with
  | zero => intro _; exact ⟨by show 2 ^ a.length - 1 = 2 ^ b.length - 1; rw [hl], rfl⟩
  | succ k ih =>
    intro h
    obtain ⟨h1, h2⟩ := ih (fun i hi => h i (by omega))
    refine ⟨?_, ?_⟩
    · show mns (lft a k) (a.getD k 0).toNat = mns (lft b k) (b.getD k 0).toNat
      rw [h1, h k (by omega)]
    · show rkI a k + (plc (mems (lft a k)) (a.getD k 0)).toNat * _ = rkI b k + (plc (mems (lft b k)) (b.getD k 0)).toNat * _
      rw [h1, h2, h k (by omega), hl]
theorem rnk_split {l : List Int} (h : rOk l) {k : Nat} (hk : k < l.length) : rnk l = ((rkI l k + bfr l k * fac (l.length - 1 - k) + rmd l (l.length - (k + 1)) : Nat) : Int) := by
  have h1 := rk_rmd l (k + 1) (by omega)
  rw [rnk_yes h, rk_full, ← h1]
  rfl
theorem ord_less {a b : List Int} (ha : rOk a) (hb : rOk b) (hl : a.length = b.length) (hr : rnk b = rnk a + 1) {k : Nat} (hk : k < a.length) (hp : ∀ i, i < k → a.getD i 0 = b.getD i 0) (hne : a.getD k 0 ≠ b.getD k 0) : a.getD k 0 < b.getD k 0 := by
  obtain ⟨p1, p2⟩ := lft_pre hl k hp
  have ga := plc_get (bfr_plc ha.1 hk).1
  have gb := plc_get (bfr_plc hb.1 (show k < b.length by omega)).1
  have lb := (bfr_plc hb.1 (show k < b.length by omega)).2.2
  have sa := rnk_split ha hk
  have sb := rnk_split hb (show k < b.length by omega)
  have ra := rmd_lt ha.1 (a.length - (k + 1)) (by omega)
  have rb := rmd_lt hb.1 (b.length - (k + 1)) (by omega)
  rw [p1] at ga
  rw [p2, hl] at sa
  rw [hl] at ra
  rw [show b.length - (k + 1) = b.length - 1 - k by omega] at sa sb ra rb
  rcases Nat.lt_trichotomy (bfr a k) (bfr b k) with h | h | h
  · rw [← ga, ← gb]
    refine inc_at (filK_inc _ _) h ?_
    have h0 : b.getD k 0 ∈ mems (lft b k) := by
      by_cases hm : b.getD k 0 ∈ mems (lft b k)
      · exact hm
      · have := (bfr_plc hb.1 (show k < b.length by omega)).1
        rw [plc_out hm] at this; omega
    have h1 := (bfr_plc hb.1 (show k < b.length by omega)).1
    unfold plc at h1
    rw [if_pos h0] at h1
    have := List.idxOf_lt_length_iff.2 h0
    show bfr b k < (mems (lft b k)).length
    omega
  · rw [h, gb] at ga; exact absurd ga.symm hne
  · exfalso
    have h3 : (bfr b k + 1) * fac (b.length - 1 - k) ≤ bfr a k * fac (b.length - 1 - k) := Nat.mul_le_mul_right _ (by omega)
    rw [Nat.add_mul, Nat.one_mul] at h3
    omega
theorem ord_diff {a b : List Int} (hl : a.length = b.length) (hr : rnk b = rnk a + 1) {k : Nat} (hk : k ≤ a.length) (hp : ∀ i, i < k → a.getD i 0 = b.getD i 0) : k < a.length := by
  by_cases e : k = a.length
  · exfalso
    have : a = b := getD_ext hl (fun j hj => hp j (by omega))
    rw [this] at hr; omega
  · omega
theorem getD_dropO (L : List Int) (k i : Nat) : (L.drop k).getD i 0 = L.getD (k + i) 0 := by
  rw [List.getD_eq_getElem?_getD, List.getD_eq_getElem?_getD, List.getElem?_drop]
theorem lsc_zero {x : Int} {L : List Int} (h : ∀ a ∈ L, x ≤ a) : lsc x L = 0 := by
  induction L with
  | nil => rfl
  | cons a t ih =>
    have h1 := h a (List.mem_cons_self ..)
    show (if a < x then 1 else 0) + lsc x t = 0
    rw [if_neg (by omega), ih (fun b hb => h b (List.mem_cons_of_mem _ hb))]
theorem nums_ok {m : Nat} (h1 : 1 ≤ m) (h8 : m ≤ 8) : rOk (numsO m) := by
  refine ⟨vo_iff.2 ⟨by rw [numsO_len]; omega, vmB_iff.2 ⟨fun x hx => ?_, ?_⟩⟩, by rw [numsO_len]; exact h8⟩
  · obtain ⟨i, hi, e⟩ := mem_getD hx
    rw [numsO_len] at hi ⊢
    rw [numsO_at hi] at e
    omega
  · rw [← mems_nums (n := m) (by omega)]; exact filK_nd _ _
theorem nums_rnk {m : Nat} (h1 : 1 ≤ m) (h8 : m ≤ 8) : rnk (numsO m) = 0 := by
  have hok := nums_ok h1 h8
  have hb : ∀ c, c < m → bfr (numsO m) c = 0 := by
    intro c hc
    rw [(bfr_plc hok.1 (show c < (numsO m).length by rw [numsO_len]; exact hc)).2.1, numsO_at hc]
    refine lsc_zero fun a ha => ?_
    obtain ⟨i, hi, e⟩ := mem_getD ha
    rw [List.length_drop, numsO_len] at hi
    rw [getD_dropO, numsO_at (by omega)] at e
    omega
  have hr : ∀ c, c ≤ m → rkI (numsO m) c = 0 := by
    intro c
    induction c with
    | zero => intro _; rfl
    | succ c ih =>
      intro hc
      show rkI (numsO m) c + bfr (numsO m) c * _ = 0
      rw [ih (by omega), hb c (by omega)]; simp
  rw [rnk_yes hok, numsO_len, hr m (Nat.le_refl _)]; rfl
theorem rev_at (L : List Int) {i : Nat} (h : i < L.length) : L.reverse.getD i 0 = L.getD (L.length - 1 - i) 0 := by
  rw [List.getD_eq_getElem?_getD, List.getD_eq_getElem?_getD, List.getElem?_reverse h]
theorem nums_mir (m : Nat) : mir (numsO m) = (numsO m).reverse := by
  refine getD_ext (by rw [mir_len, List.length_reverse]) fun j hj => ?_
  rw [mir_len, numsO_len] at hj
  rw [mir_at _ (by rw [numsO_len]; exact hj), rev_at _ (by rw [numsO_len]; exact hj), numsO_len, numsO_at hj, numsO_at (by omega)]
  omega
theorem ord_last {n m : Int} (h : oOk n m) (h2 : ¬ oOk (n + 1) m) : n + 1 = fI m ∧ ordL n m = (numsO m.toNat).reverse := by
  have e : n + 1 = fI m := by
    have hm := h.1
    have hn := h.2
    by_cases e : n + 1 = fI m
    · exact e
    · exact absurd ⟨hm, by omega, by omega⟩ h2
  refine ⟨e, ?_⟩
  obtain ⟨m, rfl⟩ := Int.eq_ofNat_of_zero_le (show 0 ≤ m by have := h.1; omega)
  have hm := h.1
  have hok := nums_ok (m := m) (by omega) (by omega)
  have hr := mir_rnk hok
  rw [nums_rnk (by omega) (by omega), nums_mir, numsO_len] at hr
  have hok2 : rOk (numsO m).reverse := by
    rw [← nums_mir]
    exact ⟨mir_vo hok.1, by rw [mir_len]; exact hok.2⟩
  have h3 := ord_rnk hok2
  rw [hr, List.length_reverse, numsO_len, Int.sub_zero] at h3
  rw [Int.toNat_natCast, ← h3, ← e]
  congr 1; omega

def IIOut (w : World) (e : Ending) (w' : World) : Prop :=
  ∃ (n m : Int), e = .returned (.tuple #[.int .i64 n, .int .i64 m]) ∧ -1 ≤ n ∧ n ≤ 40320 ∧ 0 ≤ m ∧ m ≤ 9 ∧ Ext w w'
set_option maxHeartbeats 1000000 in
theorem dDrawOrderAt (sa : Option Addr) (len cap : Nat) (w : World) (h : Code w sa len cap) (hl : len ≤ maxLen) :
    Calls Try.prog 34 #[.slice sa len cap] w (IIOut w) := by
  go_enter Try.func34, Try.ntmps34
  go_wp2_with fail
  refine (newReader_any _ _ _ _ h hl).mono ?_
  rintro e w1 ⟨rfl, hr1, hb1, hs1⟩
  have hE1 : Ext w w1 := Ext.of hb1
  have hz1 : w.heap.size ≤ w1.heap.size := hE1.size
  have hgl := hr1.lt
  have hB1 := But.of_below (g := w.heap.size) hE1
  clear hb1 hs1 h
  go_wp2_with fail
  refine (one_at _ _ _ [4, 3, 5, 1, 8, 0, 9] (0) (9) _ _ _ w1 rfl rfl hr1 (by omega) (by simp) (by simp) (by intro z hz; simp at hz; omega)).mono ?_
  rintro e w2 ⟨m, rfl, m0, m1, hr2, hb2, hs2⟩
  have hb2 := ((But.refl w.heap.size w1).alloc _).trans hb2
  have hB2 := hB1.trans hb2
  clear hr1 hb2 hs2 hB1
  go_wp2_with fail
  refine (pick_pos _ _ _ 24 _ hr2 (by omega) (by omega)).mono ?_
  rintro e w3 ⟨v, rfl, v0, v1, hr3, hb3, hs3⟩
  have hB3 := hB2.trans hb3
  clear hr2 hb3 hs3 hB2
  go_wp2_with fail
  refine (pick_pos _ _ _ 120 _ hr3 (by omega) (by omega)).mono ?_
  rintro e w4 ⟨u, rfl, u0, u1, hr4, hb4, hs4⟩
  have hB4 := hB3.trans hb4
  clear hr3 hb4 hs4 hB3
  go_wp2_with fail
  refine (one_at _ _ _ [v, u, 0, 23, 719, 40319, -1, 40320] (-1) (40320) _ _ _ w4 rfl rfl hr4 (by omega) (by simp) (by simp) (by intro z hz; simp at hz; omega)).mono ?_
  rintro e w5 ⟨n, rfl, n0, n1, hr5, hb5, hs5⟩
  have hb5 := ((But.refl w.heap.size w4).alloc _).trans hb5
  have hB5 := hB4.trans hb5
  clear hr4 hb5 hs5 hB4
  have EE := Ext.of (hB5.to_below (B := w.heap.size) (Nat.le_refl _) (Nat.le_refl _))
  go_wp2
  refine bodyPost_ret (v := .tuple #[.int .i64 n, .int .i64 m]) (by simp [results, Try.results34, go_sem]) rfl ?_
  exact ⟨n, m, rfl, n0, n1, m0, m1, EE⟩
set_option maxHeartbeats 1000000 in
theorem lawNums (n : Nat) (w : World) (hn : n ≤ 2000000) : Calls Try.prog 36 #[.int .i64 n] w (RetList (numsO n) w) := by
  have HNS := hide (fun c => numsO_succ c)
  have HNL := hide (fun c => numsO_len c)
  go_enter Try.func36, Try.ntmps36
  go_wp2
  go_loopw [3, 4] (fun v i wr => ∃ (c : Nat) (s2 : Option Addr) (c2 : Nat) (o : List Int), c ≤ n ∧ i = .int .i64 c ∧ v = .slice s2 o.length c2 ∧ Hid (o = numsO c) ∧ Row w.heap.size wr s2 c2 o ∧ Ext w wr) (fun _ i _ => n - (intOf i).toNat)
  case atStart => exact ⟨0, _, 0, [], Nat.zero_le _, rfl, rfl, rfl, Row.made _ _ (Nat.le_refl _), (Ext.refl _).alloc _⟩
  case round =>
    obtain ⟨c, s2, c2, o, hc, rfl, rfl, HO, hr, hE⟩ := hrel
    have ho : o.length ≤ c := by rw [HO.out, HNL.out]; exact Nat.le_refl _
    by_cases hlt : c < n
    · have HS := hide (show o ++ [(c : Int)] = numsO (c + 1) by rw [HO.out]; exact HNS.out c)
      go_wp2_with (first | (at_builtin; refine append_int rfl (.tmp 11) (.tmp 13) rfl w.heap.size wr s2 c2 o (c : Int) _ rfl rfl hr (by omega) hE.size ?_; intro g3 cap3 w3 R3 hb3))
      have E3 := Ext.of (Below.trans hE hb3)
      clear hb3
      go_wp2
      go_roundw
      case rel => exact ⟨c + 1, _, _, _, by omega, by go_num, by rw [len_snocZ o (c : Int)], HS, R3, E3⟩
      case measure => simp [intOf]; omega
    · obtain rfl : c = n := by omega
      have HG := hide (show numsO c = o from HO.out.symm)
      go_wp2
      go_ret
      exact ⟨s2, c2, by rw [HG.out]; rfl, by rw [HG.out]; exact hr, hE⟩
set_option maxRecDepth 100000 in
set_option maxHeartbeats 1000000 in
theorem walkFnOrderAt (w : World) (sa : Option Addr) (len cap : Nat) (h : Code w sa len cap) (hl : len ≤ maxLen) :
    Calls Try.prog 8 #[.slice sa len cap] w fun e w' => e = .returned (.bool true) ∧ Below w.heap.size w w' := by
  have hl' := hl
  unfold maxLen at hl'
  by_cases hbig : 1048576 < len
  · clear h hl
    go_enter Try.func8, Try.ntmps8
    go_wp2
    go_ret
    exact ⟨rfl, Below.refl _ _⟩
  · go_enter Try.func8, Try.ntmps8
    go_wp2_with fail
    refine (dDrawOrderAt sa len cap w h hl).mono ?_
    rintro e w1 ⟨n, m, rfl, n0, n1, m0, m1, E1⟩
    clear h hl hl' hbig
    have HP1 := hide (fun w2 => implOrd n m w2)
    have HP2 := hide (fun w2 => specOrd n m w2)
    have hla := ordL_len n m
    have hEQ := fun sa ca sb cb w2 ha hb => equalInts_any sa sb (ordL n m) (ordL n m) ca cb w2 ha hb (by omega) (by omega)
    rw [decide_eq_true (rfl : ordL n m = ordL n m)] at hEQ
    have HEQ := hide hEQ
    clear hEQ
    by_cases hok : oOk n m
    · obtain ⟨ho1, ho2, ho3⟩ := ord_ok hok
      have hm1 := hok.1.1
      have hm8 := hok.1.2
      have HN1 := hide (fun w2 => implOrd (n + 1) m w2)
      by_cases hok2 : oOk (n + 1) m
      · obtain ⟨hp1, hp2, hp3⟩ := ord_ok hok2
        have hll : (ordL n m).length = (ordL (n + 1) m).length := by omega
        have hrr : rnk (ordL (n + 1) m) = rnk (ordL n m) + 1 := by omega
        have HLS := hide (fun k hk hp hne => @ord_less _ _ ho1 hp1 hll hrr k hk hp hne)
        have HDF := hide (fun k hk hp => @ord_diff _ _ hll hrr k hk hp)
        have HRK := hide (fun s c w2 (h : Lst w2 s (ordL n m)) (hc : (ordL n m).length ≤ c) => implRank s c (ordL n m) w2 h (by omega) hc)
        rw [ho3] at HRK
        obtain ⟨a, ha⟩ : ∃ a, a = ordL n m := ⟨_, rfl⟩; rw [← ha] at HP1 HP2 HEQ ho2 hla hll HLS HDF HRK
        obtain ⟨b, hb⟩ : ∃ b, b = ordL (n + 1) m := ⟨_, rfl⟩; rw [← hb] at HN1 hll HLS HDF
        clear ha hb hok hok2 ho1 ho3 hp1 hp2 hp3 hrr
        have hne1 : ((a.length : Int) == 0) = false := by rw [beq_eq_false_iff_ne]; omega
        have hne2 : ((b.length : Int) == 0) = false := by rw [beq_eq_false_iff_ne]; omega
        have hal : b.length ≤ 8 := by omega
        have HLL := hide hll; clear hll
        have hnn : (n == n) = true := by simp
        go_wp2_with fail; refine (HP1.out _).mono ?_; rintro e w2 ⟨s2, c2, rfl, R2, hb2⟩
        have E2 := Ext.of hb2
        have hcap2 := R2.cap
        go_wp2_with fail; refine (HP2.out _).mono ?_; rintro e w3 ⟨s3, c3, rfl, R3, hb3⟩
        have E3 := Ext.of hb3
        have L2 := hide (R2.lst.ext E3)
        have L3 := hide R3.lst
        clear hb2 hb3 R2 R3
        go_wp2_with fail; refine (HEQ.out s2 c2 s3 c3 _ L2.out L3.out).mono ?_; rintro e w4 ⟨rfl, hb4⟩
        have E4 := Ext.of hb4
        clear hb4
        have L4 := hide (L2.out.ext E4)
        have EX := (E2.trans E3).trans E4
        clear L2 L3
        go_wp2_with fail; refine (HN1.out _).mono ?_; rintro e w5 ⟨s5, c5, rfl, R5, hb5⟩
        have E5 := Ext.of hb5
        have LB := hide R5.lst
        have LA := hide (L4.out.ext E5)
        clear hb5 R5 L4
        go_wp2
        go_loopw [7] (fun i wr => ∃ k : Nat, k ≤ a.length ∧ i = .int .i64 k ∧ Hid (∀ j, j < k → a.getD j 0 = b.getD j 0) ∧ Ext w5 wr) (fun i _ => a.length - (intOf i).toNat)
        case atStart => exact ⟨0, Nat.zero_le _, rfl, (show ∀ j, j < 0 → a.getD j 0 = b.getD j 0 from fun j hj => absurd hj (Nat.not_lt_zero _)), Ext.refl _⟩
        case round =>
          obtain ⟨k, hk, rfl, HE, hE⟩ := hrel
          have hka := HDF.out k hk HE.out
          have hkb : k < b.length := by have := HLL.out; omega
          have hia : (k : Int) < (a.length : Int) := by omega
          have hib : (k : Int) < (b.length : Int) := by omega
          obtain ⟨g, off, rfl, hg, ca⟩ := (LA.out.ext hE).at hka
          obtain ⟨g2, off2, rfl, hg2, cb⟩ := (LB.out.ext hE).at hkb
          by_cases heq : a.getD k 0 = b.getD k 0
          · have HE2 := hide (show ∀ j, j < k + 1 → a.getD j 0 = b.getD j 0 from fun j hj => by
              by_cases e : j = k
              · rw [e]; exact heq
              · exact HE.out j (by omega))
            rw [← heq] at cb
            obtain ⟨x, hx⟩ : ∃ x, x = a.getD k 0 := ⟨_, rfl⟩; rw [← hx] at ca cb
            have hd : (x == x) = true := by simp
            have q1 := cell_regrown ca
            have q2 := cell_regrown cb
            clear hx heq HE
            go_wp2
            refine wp_region_quiet_below (by kernel_rfl) (by kernel_rfl) ?_
            repeat (go_big_quiet_step (fail))
            refine wpQuiet_nil ?_; intro w9 hq; have E9 := Ext.class hq; clear hq
            go_wp2
            go_roundw
            case rel => exact ⟨k + 1, by omega, by go_num, HE2, hE.trans E9⟩
            case measure => simp [intOf]; omega
          · have hlt := HLS.out k hka HE.out heq
            have HX := hide (show a.getD k 0 = a.getD k 0 from rfl)
            have hd : (a.getD k 0 == b.getD k 0) = false := by rw [beq_eq_false_iff_ne]; exact heq
            have hd2 : decide (a.getD k 0 < b.getD k 0) = true := decide_eq_true hlt
            have HCA := hide (fun wz (e : Ext wr wz) => (e.cell hg).trans ca)
            have HCB := hide (fun wz (e : Ext wr wz) => (e.cell hg2).trans cb)
            obtain ⟨x, hx⟩ : ∃ x, x = a.getD k 0 := ⟨_, rfl⟩; rw [← hx] at ca heq hlt hd hd2 HCA
            obtain ⟨y, hy⟩ : ∃ y, y = b.getD k 0 := ⟨_, rfl⟩; rw [← hy] at cb heq hlt hd hd2 HCB
            have q1 := cell_regrown ca
            have q2 := cell_regrown cb
            clear hx hy heq hlt HE HX
            go_wp2
            refine wp_region_quiet_below (by kernel_rfl) (by kernel_rfl) ?_
            repeat (go_big_quiet_step (fail))
            refine wpQuiet_nil ?_; intro w9 hq; have E9 := Ext.class hq; clear hq
            clear q1 q2
            have q1 := cell_regrown (HCA.out _ E9)
            have q2 := cell_regrown (HCB.out _ E9)
            have HRR := hide (fun (dd : Nat) (os : Array Obj) => HRK.out (some ⟨g, off, none⟩) c2 (grow (redrawn w9 dd) os) (LA.out.ext ((hE.trans E9).trans (below_regrown _ _ _))) hcap2)
            clear ca cb HCA HCB
            go_wp2
            refine wp_region_quiet_below (by kernel_rfl) (by kernel_rfl) ?_
            repeat (go_big_quiet_step ((first | (go_at_call 17; exact Ret.quiet (HRR.out _ _)))))
            refine wpQuiet_nil ?_; intro w8 hq; have E8 := Ext.class hq; clear hq
            have E := E1.trans (EX.trans (E5.trans ((hE.trans E9).trans E8)))
            go_wp2
            go_ret
            exact ⟨rfl, E⟩
      · obtain ⟨hl1, hl2⟩ := ord_last hok hok2
        rw [ordL_no hok2] at HN1
        have hmz : (m.toNat : Int) = m := by omega
        have HFC := hide (fun w2 => lawFac m w2 (by omega) (by omega))
        have HNU := hide (fun w2 => lawNums m.toNat w2 (by omega))
        rw [hmz] at HNU
        rw [hl2] at HP1 HP2 HEQ hla ho2
        rw [← hl1] at HFC
        have HBK := hide (fun s c w2 (h : Lst w2 s (numsO m.toNat)) => lawBack s c m.toNat (numsO m.toNat) w2 h (numsO_len _) (by omega))
        have HNN := numsO_len m.toNat
        obtain ⟨N, hN⟩ : ∃ N, N = numsO m.toNat := ⟨_, rfl⟩; rw [← hN] at HP1 HP2 HEQ hla ho2 HNU HBK HNN
        obtain ⟨a, ha⟩ : ∃ a, a = N.reverse := ⟨_, rfl⟩; rw [← ha] at HP1 HP2 HEQ hla ho2 HBK
        rw [← HNN] at HBK
        have hne1 : ((a.length : Int) == 0) = false := by rw [beq_eq_false_iff_ne]; omega
        have hnn : ((n : Int) + 1 == n + 1) = true := by simp
        clear hN ha hok hok2 ho1 ho3 hl1 hl2 hmz HNN
        go_wp2_with fail; refine (HP1.out _).mono ?_; rintro e w2 ⟨s2, c2, rfl, R2, hb2⟩
        have E2 := Ext.of hb2
        go_wp2_with fail; refine (HP2.out _).mono ?_; rintro e w3 ⟨s3, c3, rfl, R3, hb3⟩
        have E3 := Ext.of hb3
        have L2 := hide (R2.lst.ext E3)
        have L3 := hide R3.lst
        clear hb2 hb3 R2 R3
        go_wp2_with fail; refine (HEQ.out s2 c2 s3 c3 _ L2.out L3.out).mono ?_; rintro e w4 ⟨rfl, hb4⟩
        have E4 := Ext.of hb4
        clear hb4
        have L4 := hide (L2.out.ext E4)
        have EX := (E2.trans E3).trans E4
        clear L2 L3
        go_wp2_with fail; refine (HN1.out _).mono ?_; rintro e w5 ⟨s5, c5, rfl, R5, hb5⟩
        have E5 := Ext.of hb5
        have LA := hide (L4.out.ext E5)
        clear hb5 R5 L4
        go_wp2_with fail; refine (HFC.out _).mono ?_; rintro e w' ⟨rfl, rfl⟩
        go_wp2_with fail; refine (HNU.out _).mono ?_; rintro e w6 ⟨s6, c6, rfl, R6, hb6⟩
        have E6 := Ext.of hb6
        have L6 := hide R6.lst
        have LA2 := hide (LA.out.ext E6)
        clear hb6 R6 LA
        go_wp2_with fail; refine (HBK.out s6 c6 _ L6.out).mono ?_; rintro e w7 ⟨s7, c7, rfl, R7, hb7⟩
        have E7 := Ext.of hb7
        have L7 := hide R7.lst
        have LA3 := hide (LA2.out.ext E7)
        clear hb7 R7 LA2
        go_wp2_with fail; refine (HEQ.out s2 c2 s7 c7 _ LA3.out L7.out).mono ?_; rintro e w8 ⟨rfl, hb8⟩
        have E8 := Ext.of hb8
        clear hb8
        have E := E1.trans (EX.trans ((E5.trans E6).trans (E7.trans E8)))
        go_wp2
        go_ret
        exact ⟨rfl, E⟩
    · have hnil := ordL_no hok
      rw [hnil] at HP1 HP2 HEQ
      clear hok hnil hla
      go_wp2_with fail; refine (HP1.out _).mono ?_; rintro e w2 ⟨s2, c2, rfl, R2, hb2⟩
      have E2 := Ext.of hb2
      go_wp2_with fail; refine (HP2.out _).mono ?_; rintro e w3 ⟨s3, c3, rfl, R3, hb3⟩
      have E3 := Ext.of hb3
      have L2 := hide (R2.lst.ext E3)
      have L3 := hide R3.lst
      clear hb2 hb3 R2 R3
      go_wp2_with fail; refine (HEQ.out s2 c2 s3 c3 _ L2.out L3.out).mono ?_; rintro e w4 ⟨rfl, hb4⟩
      have E4 := Ext.of hb4
      clear hb4
      go_wp2_with fail; refine (HP2.out _).mono ?_; rintro e w5 ⟨s5, c5, rfl, R5, hb5⟩
      have E5 := Ext.of hb5
      have L5 := hide R5.lst
      have L6 := hide ((L2.out.ext E4).ext E5)
      clear hb5 R5
      go_wp2_with fail; refine (HEQ.out s2 c2 s5 c5 _ L6.out L5.out).mono ?_; rintro e w6 ⟨rfl, hb6⟩
      have E6 := Ext.of hb6
      clear hb6
      have E := E1.trans (((E2.trans E3).trans E4).trans (E5.trans E6))
      go_wp2
      go_ret
      exact ⟨rfl, E⟩
end Go.Proofs.Ythbkkbcbhhmhoac
