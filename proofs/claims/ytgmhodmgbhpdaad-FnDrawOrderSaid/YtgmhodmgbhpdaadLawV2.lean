/- Chapter 3: the walk of the law of draws from other reveals, at drawn arguments. -/
import Derived.Test.YtgmhodmgbhpdaadLawV1
namespace Go.Proofs.Ytgmhodmgbhpdaad
open Go.ChangeShapes Go.WideShapes Go.ChangeAt Go.RowKit Go.Joins Go.Sort
set_option linter.unusedVariables false

def smL : List Rv → Int
  | [] => 0
  | r :: t => (if hnB r = true then r.v else 0) + smL t
theorem smL_append (a b : List Rv) : smL (a ++ b) = smL a + smL b := by
  induction a with
  | nil => show smL b = 0 + smL b; omega
  | cons r t ih => show (if hnB r = true then r.v else 0) + smL (t ++ b) = (if hnB r = true then r.v else 0) + smL t + smL b; rw [ih]; omega
theorem smL_rev (a : List Rv) : smL a.reverse = smL a := by
  induction a with
  | nil => rfl
  | cons r t ih =>
    rw [List.reverse_cons, smL_append, ih]
    show smL t + ((if hnB r = true then r.v else 0) + 0) = (if hnB r = true then r.v else 0) + smL t
    omega
theorem smL_filter (a : List Rv) : smL (a.filter hnB) = smL a := by
  induction a with
  | nil => rfl
  | cons r t ih =>
    by_cases h : hnB r = true
    · rw [List.filter_cons_of_pos h]
      show (if hnB r = true then r.v else 0) + smL (t.filter hnB) = (if hnB r = true then r.v else 0) + smL t
      rw [ih]
    · rw [List.filter_cons_of_neg h, ih]
      show smL t = (if hnB r = true then r.v else 0) + smL t
      rw [if_neg h]; omega
theorem take_snocV {ll : List Rv} {k : Nat} (h : k < ll.length) : ll.take (k + 1) = ll.take k ++ [ll.getD k Rv.z] := by
  rw [List.take_succ_eq_append_getElem h, List.getD_eq_getElem?_getD, List.getElem?_eq_getElem h]; rfl
theorem smK_smL (ll : List Rv) : ∀ k, k ≤ ll.length → smK ll k = smL (ll.take k) := by
  intro k
  induction k with
  | zero => intro _; rw [List.take_zero]; rfl
  | succ k ih =>
    intro h
    rw [take_snocV (by omega), smL_append, ← ih (by omega)]
    by_cases h2 : hnB (ll.getD k Rv.z) = true
    · rw [← smK_yes h2]; show _ = smK ll k + ((if hnB (ll.getD k Rv.z) = true then (ll.getD k Rv.z).v else 0) + 0); rw [if_pos h2]; omega
    · have h3 := h2
      rw [Bool.not_eq_true] at h3
      rw [← smK_no h3]; show _ = smK ll k + ((if hnB (ll.getD k Rv.z) = true then (ll.getD k Rv.z).v else 0) + 0); rw [if_neg h2]; omega
theorem smK_all (ll : List Rv) : smK ll ll.length = smL ll := by rw [smK_smL ll _ (Nat.le_refl _), List.take_length]
def kept (ll : List Rv) (L : List Int) : List Rv := L.map fun i => ll.getD i.toNat Rv.z
theorem kept_len (ll : List Rv) (L : List Int) : (kept ll L).length = L.length := by simp [kept]
theorem kept_at (ll : List Rv) (L : List Int) {k : Nat} (h : k < L.length) : (kept ll L).getD k Rv.z = ll.getD (L.getD k 0).toNat Rv.z := by
  simp [kept, List.getD_eq_getElem?_getD, h]
theorem kept_hn (ll : List Rv) : ∀ k, k ≤ ll.length → kept ll (hnK ll k) = (ll.take k).filter hnB := by
  intro k
  induction k with
  | zero => intro _; rw [List.take_zero]; rfl
  | succ k ih =>
    intro h
    rw [take_snocV (by omega), List.filter_append, ← ih (by omega)]
    by_cases h2 : hnB (ll.getD k Rv.z) = true
    · rw [← hnK_yes h2, List.filter_cons_of_pos h2]
      unfold kept
      rw [List.map_append]; simp
    · rw [List.filter_cons_of_neg h2]
      rw [Bool.not_eq_true] at h2
      rw [← hnK_no h2]; simp
theorem rv_mem {ll : List Rv} {r : Rv} (h : rvsOk ll) (hr : r ∈ ll) : cOk r.v r.s := by
  obtain ⟨i, hi, e⟩ := List.mem_iff_getElem.1 hr
  have := h.2 i hi
  rw [List.getD_eq_getElem?_getD, List.getElem?_eq_getElem hi] at this
  have e2 : ((some ll[i]).getD Rv.z) = r := e
  rw [e2] at this; exact this
theorem rvs_sub {ll K : List Rv} (h : rvsOk ll) (hl : K.length ≤ 12) (hs : ∀ r ∈ K, r ∈ ll) : rvsOk K := by
  refine ⟨hl, fun i hi => ?_⟩
  have hm : K.getD i Rv.z ∈ K := by rw [List.getD_eq_getElem?_getD, List.getElem?_eq_getElem hi]; exact List.getElem_mem hi
  exact rv_mem h (hs _ hm)
theorem dw_like {ll K : List Rv} {n : Int} (h : dwOk ll n) (hl : K.length ≤ 12) (hs : ∀ r ∈ K, r ∈ ll) (hm : smL K = smL ll) : dwS K n = dwS ll n ∧ dwC K n = dwC ll n := by
  have h2 : dwOk K n := ⟨rvs_sub h.1 hl hs, h.2⟩
  rw [dwS_yes h2, dwS_yes h, dwC_yes h2, dwC_yes h, smK_all, smK_all, hm]
  exact ⟨rfl, rfl⟩
theorem dw_facts {ll : List Rv} {n : Int} (h0 : 0 ≤ dwS ll n) : dwOk ll n := by
  by_cases h : dwOk ll n
  · exact h
  · rw [dwS_no h] at h0; omega
theorem dw_kept {ll : List Rv} {n : Int} (h : dwOk ll n) : dwS (kept ll (hnL ll)) n = dwS ll n ∧ dwC (kept ll (hnL ll)) n = dwC ll n := by
  have e : kept ll (hnL ll) = ll.filter hnB := by rw [hnL_yes h.1, kept_hn ll _ (Nat.le_refl _), List.take_length]
  have hl : (ll.filter hnB).length ≤ ll.length := List.length_filter_le ..
  have := h.1.1
  rw [e]
  exact dw_like h (by omega) (fun r hr => (List.mem_filter.1 hr).1) (smL_filter ll)
theorem dw_rev {ll : List Rv} {n : Int} (h : dwOk ll n) : dwS ll.reverse n = dwS ll n ∧ dwC ll.reverse n = dwC ll n :=
  dw_like h (by rw [List.length_reverse]; exact h.1.1) (fun r hr => List.mem_reverse.1 hr) (smL_rev ll)
theorem hnL_at {ll : List Rv} {k : Nat} (h : k < (hnL ll).length) : ∃ m : Nat, (hnL ll).getD k 0 = (m : Int) ∧ m < ll.length := by
  by_cases h2 : rvsOk ll
  · rw [hnL_yes h2] at h ⊢
    refine hnK_at (ll := ll) ll.length _ ?_
    rw [List.getD_eq_getElem?_getD, List.getElem?_eq_getElem h]; exact List.getElem_mem h
  · rw [hnL_no h2] at h; simp at h
/-- the program's draw of other reveals that give the same -/
theorem draw_like (s : Option Addr) (c k : Nat) (K ll : List Rv) (n : Int) (w : World) (hK : Rst w s K) (hk : K.length = k) (hl : k ≤ 1000) (h : dwS K n = dwS ll n ∧ dwC K n = dwC ll n) :
    Calls Try.prog 19 #[.slice s k c, .int .i64 n] w (DwRet ll n w) := by
  subst hk
  refine (implDraw s c K n w hK (by omega)).mono ?_
  intro e w' ⟨h1, h2⟩
  rw [h.1, h.2] at h1
  exact ⟨h1, h2⟩
theorem Rst.but {g : Nat} {w w' : World} {sa : Option Addr} {ll : List Rv} (h : Rst w sa ll) (e : But g w w') (hne : ∀ b off, sa = some ⟨b, off, none⟩ → b ≠ g) : Rst w' sa ll := by
  rcases h with h | ⟨b, off, h1, h2, h3⟩
  · exact .inl h
  · refine .inr ⟨b, off, h1, Nat.lt_of_lt_of_le h2 e.size, fun i hi => ?_⟩
    obtain ⟨x, y, z⟩ := h3 i hi
    have hb := hne b off h1
    exact ⟨(e.cell b _ h2 hb).trans x, (e.cell b _ h2 hb).trans y, (e.cell b _ h2 hb).trans z⟩
/-- where a growing list lies: at its first place, or in a block made since -/
def Lies (g : Nat) (w5 : World) (sb : Option Addr) : Prop := sb = some ⟨g, 0, none⟩ ∨ ∃ b, sb = some ⟨b, 0, none⟩ ∧ w5.heap.size ≤ b
theorem lies_grow {g base : Nat} {w5 w1 w' : World} {sb : Option Addr} {g' : Nat} (hL : Lies g w5 sb) (h : But g w5 w1) (hb : Below base w1 w') (ha : sb = some ⟨g', 0, none⟩ ∨ w1.heap.size ≤ g')
    (hc : ∀ k, k < w1.heap.size → sb ≠ some ⟨k, 0, none⟩ → w'.heap[k]? = w1.heap[k]?) : Lies g w5 (some ⟨g', 0, none⟩) ∧ But g w5 w' := by
  constructor
  · rcases ha with e | e
    · rw [← e]; exact hL
    · exact .inr ⟨g', rfl, Nat.le_trans h.size e⟩
  · refine ⟨hb.os.trans h.os, hb.tape.trans h.tape, hb.output.trans h.output, Nat.le_trans h.size hb.size, fun k hk hg => ?_⟩
    rw [← h.block k hk hg]
    refine hc k (Nat.lt_of_lt_of_le hk h.size) (fun e => ?_)
    rcases hL with e2 | ⟨b, e2, hb2⟩
    · have e3 := e2.symm.trans e; cases e3; exact hg rfl
    · have e3 := e2.symm.trans e; cases e3; omega
theorem takeK {K : List Rv} {k : Nat} (h : k < K.length) {r : Rv} (e : r = K.getD k Rv.z) : K.take k ++ [r] = K.take (k + 1) := by rw [take_snocV h, e]
theorem takeRev {ll : List Rv} {k : Nat} (h : k < ll.length) {r : Rv} (e : r = ll.getD (ll.length - 1 - k) Rv.z) : ll.reverse.take k ++ [r] = ll.reverse.take (k + 1) := by
  refine takeK (by rw [List.length_reverse]; exact h) ?_
  rw [e, List.getD_eq_getElem?_getD, List.getD_eq_getElem?_getD, List.getElem?_reverse h]
set_option maxRecDepth 100000 in
set_option maxHeartbeats 1600000 in
theorem walkFnDrawOf (w : World) (sa : Option Addr) (len cap : Nat) (h : Code w sa len cap) (hl : len ≤ maxLen) :
    Calls Try.prog 4 #[.slice sa len cap] w fun e w' => e = .returned (.bool true) ∧ Below w.heap.size w w' := by
  have hl' := hl
  unfold maxLen at hl'
  by_cases hbig : 1048576 < len
  · clear h hl
    go_enter Try.func4, Try.ntmps4
    go_wp2
    go_ret
    exact ⟨rfl, Below.refl _ _⟩
  go_enter Try.func4, Try.ntmps4
  go_wp2_with fail
  refine (dDrawDrawOf sa len cap w h hl).mono ?_
  rintro e w1 ⟨sl, cl, l, n, rfl, RA, na, n0, n1, E1⟩
  clear h hl hl' hbig
  have HL := hide RA.rst
  clear RA
  have HP1 := hide (fun w2 (e : Ext w1 w2) => implDraw sl cl l n w2 (HL.out.ext e) (by omega))
  have HP2 := hide (fun w2 (e : Ext w1 w2) => specDraw sl cl l n w2 (HL.out.ext e) (by omega))
  have HP3 := hide (fun w2 (e : Ext w1 w2) => implHonest sl cl l w2 (HL.out.ext e) (by omega))
  unfold DwRet at HP1 HP2
  by_cases h0 : 0 ≤ dwS l n
  · have hd := dw_facts h0
    have HKP := hide (fun s c w2 (h : Rst w2 s (kept l (hnL l))) => draw_like s c _ (kept l (hnL l)) l n w2 h rfl (by rw [kept_len]; have := hnL_len l; omega) (dw_kept hd))
    have HRV := hide (fun s c w2 (h : Rst w2 s l.reverse) => draw_like s c _ l.reverse l n w2 h rfl (by rw [List.length_reverse]; omega) (dw_rev hd))
    have HCS := hide (show dwC l n = dwS l n % n by rw [dwC_yes hd, dwS_yes hd])
    have hn1 : 1 ≤ n := hd.2.1
    have HKA := hide (fun k (hk : k < (hnL l).length) => hnL_at hk)
    have HKL := hide (kept_len l (hnL l))
    have HKE := hide (fun k (hk : k < (hnL l).length) => kept_at l (hnL l) hk)
    have hHl := hnL_len l
    unfold DwRet at HKP HRV
    clear hd
    obtain ⟨H, hH⟩ : ∃ H, H = hnL l := ⟨_, rfl⟩; rw [← hH] at HP3 HKP HKA HKL HKE hHl
    obtain ⟨S, hS⟩ : ∃ S, S = dwS l n := ⟨_, rfl⟩; rw [← hS] at HP1 HP2 HKP HRV HCS h0
    obtain ⟨C, hC⟩ : ∃ C, C = dwC l n := ⟨_, rfl⟩; rw [← hC] at HP1 HP2 HKP HRV HCS
    obtain ⟨K, hK⟩ : ∃ K, K = kept l H := ⟨_, rfl⟩; rw [← hK] at HKP HKL HKE
    obtain ⟨V, hV⟩ : ∃ V, V = l.reverse := ⟨_, rfl⟩; rw [← hV] at HRV
    have HV := hide hV
    clear hH hS hC hK hV
    have hss : ((S : Int) != S) = false := by simp
    have hcc : ((C : Int) != C) = false := by simp
    have hse : ((S : Int) == S) = true := by simp
    have hce : ((C : Int) == C) = true := by simp
    have hs0 : ¬ S < 0 := by omega
    have hn0 : ((n : Int) == 0) = false := by rw [beq_eq_false_iff_ne]; omega
    go_wp2_with fail; refine (HP1.out _ (Ext.refl _)).mono ?_; rintro e w2 ⟨rfl, E2⟩
    go_wp2_with fail; refine (HP2.out _ E2).mono ?_; rintro e w3 ⟨rfl, E3⟩
    have E13 := E2.trans E3
    go_wp2_with fail; refine (HP3.out _ E13).mono ?_; rintro e w4 ⟨s4, c4, rfl, R4, hb4⟩
    have E14 := E13.trans (Ext.of hb4); clear hb4
    have HLH := hide R4.lst
    have HL4 := hide (HL.out.ext E14)
    clear R4
    obtain ⟨w5, hw5⟩ : ∃ w5, w5 = ((w4.alloc (.cells #[] 31)).alloc (.cells #[] 31)) := ⟨_, rfl⟩
    have hz5 : w5.heap.size = w4.heap.size + 2 := by rw [hw5]; simp
    have HZ5 := hide hz5
    have E45 : Ext w4 w5 := by rw [hw5]; exact ((Ext.refl w4).alloc _).alloc _
    have RK0 : RowV w4.heap.size w5 (some ⟨w4.heap.size, 0, none⟩) 0 [] := by rw [hw5]; exact (RowV.made w4.heap.size w4 (Nat.le_refl _)).ext ((Ext.refl _).alloc _)
    have RT0 : RowV (w4.heap.size + 1) w5 (some ⟨w4.heap.size + 1, 0, none⟩) 0 [] := by
      have := RowV.made (w4.heap.size + 1) (w4.alloc (.cells #[] 31)) (by simp)
      rw [show (w4.alloc (.cells #[] 31)).heap.size = w4.heap.size + 1 by simp] at this
      rw [hw5]; exact this
    have HR0 := hide (And.intro RK0 RT0)
    have HW5 := hide hw5
    clear RK0 RT0 hz5 hw5
    go_wp2
    go_loopw [10, 12] (fun u i wr => ∃ (k : Nat) (sb : Option Addr) (cb : Nat) (o : List Rv), k ≤ H.length ∧ i = .int .i64 k ∧ u = .slice sb o.length cb ∧ o.length ≤ k ∧ Hid (o = K.take k) ∧ RowV w4.heap.size wr sb cb o ∧ Lies w4.heap.size w5 sb ∧ But w4.heap.size w5 wr) (fun _ i _ => H.length - (intOf i).toNat)
    case atStart => exact ⟨0, _, 0, [], Nat.zero_le _, rfl, rfl, Nat.le_refl _, (show [] = K.take 0 from rfl), by rw [← HW5.out]; exact HR0.out.1, .inl rfl, by rw [← HW5.out]; exact But.refl _ _⟩
    case round =>
      obtain ⟨k, sb, cb, o, hk, rfl, rfl, ho, HO, hR, hLi, hBu⟩ := hrel
      have hEr : Ext w4 wr := E45.below (hBu.to_below (B := w4.heap.size) (Nat.le_refl _) E45.size) (Nat.le_refl _)
      by_cases hlt : k < H.length
      · have hki : (k : Int) < (H.length : Int) := by omega
        obtain ⟨m, hm1, hm2⟩ := HKA.out k hlt
        obtain ⟨gh, oh, rfl, hgh, qh⟩ := (HLH.out.ext hEr).at hlt
        have HE := hide (HKE.out k hlt)
        rw [hm1] at qh HE
        rw [Int.toNat_natCast] at HE
        obtain ⟨gl, ol, rfl, hgl, q0, q1, q2⟩ := (HL4.out.ext hEr).at hm2
        have HKS : Hid (K.take k ++ [⟨(l.getD m Rv.z).c, (l.getD m Rv.z).v, (l.getD m Rv.z).s⟩] = K.take (k + 1)) := hide (takeK (by rw [HKL.out]; exact hlt) (by rw [HE.out]))
        obtain ⟨rc, hrc⟩ : ∃ rc, rc = (l.getD m Rv.z).c := ⟨_, rfl⟩; rw [← hrc] at q0 HKS
        obtain ⟨rv, hrv⟩ : ∃ rv, rv = (l.getD m Rv.z).v := ⟨_, rfl⟩; rw [← hrv] at q1 HKS
        obtain ⟨rs, hrs⟩ : ∃ rs, rs = (l.getD m Rv.z).s := ⟨_, rfl⟩; rw [← hrs] at q2 HKS
        have hmi : (m : Int) < (l.length : Int) := by omega
        clear hm1 hrc hrv hrs HE
        have A1 := Box.new wr #[.int .i64 rc, .int .i64 rv, .int .i64 rs] 31
        have RA := hR.ext ((Ext.refl wr).alloc (.cells #[.int .i64 rc, .int .i64 rv, .int .i64 rs] 31))
        have hzB : w4.heap.size ≤ (wr.alloc (.cells #[.int .i64 rc, .int .i64 rv, .int .i64 rs] 31)).heap.size := Nat.le_trans hEr.size (by simp)
        have HBA := hide (hBu.alloc (.cells #[.int .i64 rc, .int .i64 rv, .int .i64 rs] 31))
        have HLi := hide hLi
        clear hLi hBu
        go_wp2_with (first | (at_builtin; refine append_rv rfl (.tmp 68) (.tmp 76) rfl w4.heap.size _ sb cb o.length _ o ⟨rc, rv, rs⟩ _ rfl rfl rfl A1 RA (by omega) hzB ?_; intro g9 c9 w9 R9 hb9 ha9 hc9; have H9 := hide (And.intro hb9 (And.intro ha9 hc9)); clear hb9 ha9 hc9))
        obtain ⟨hLi9, hBu9⟩ := lies_grow HLi.out HBA.out H9.out.1 H9.out.2.1 H9.out.2.2
        have HO9 := hide (show o ++ [⟨rc, rv, rs⟩] = K.take (k + 1) by rw [HO.out]; exact HKS.out)
        clear H9 HBA HLi A1 RA hzB
        go_wp2
        go_roundw
        case rel => exact ⟨k + 1, _, _, o ++ [⟨rc, rv, rs⟩], by omega, by go_num, by rw [len_snocV o], by rw [List.length_append]; simp; omega, HO9, R9, hLi9, hBu9⟩
        case measure => (first | (simp [intOf]; done) | (simp [intOf]; omega))
      · have hki : decide ((k : Int) < (H.length : Int)) = false := decide_eq_false (by omega)
        have hkH : k = H.length := by omega
        obtain rfl : o = K := by rw [HO.out, hkH, ← HKL.out, List.take_length]
        obtain ⟨w6, rfl⟩ : ∃ w6, w6 = wr := ⟨wr, rfl⟩
        have hol : o.length ≤ 6 := by rw [HKL.out]; omega
        have HRK := hide hR
        have HLi := hide hLi
        have HBu := hide hBu
        have HKLI := hide HKL.out
        have hwl : IntKind.i64.wrap ((l.length : Int) - 1) = (l.length : Int) - 1 := IntWalk.i64_in _ (by omega)
        clear hkH HO ho hR hLi hBu HKL
        go_wp2
        go_loopw [11, 13] (fun u i wr => ∃ (z : Int) (t : Nat) (st : Option Addr) (ct : Nat) (p : List Rv), -1 ≤ z ∧ z < (l.length : Int) ∧ i = .int .i64 z ∧ u = .slice st p.length ct ∧ p.length ≤ 6 ∧ Hid (p.length = t) ∧ Hid (z + (t : Int) + 1 = (l.length : Int)) ∧ Hid (p = V.take t) ∧ RowV (w4.heap.size + 1) wr st ct p ∧ Lies (w4.heap.size + 1) w6 st ∧ But (w4.heap.size + 1) w6 wr) (fun _ i _ => (intOf i + 1).toNat)
        case atStart => exact ⟨(l.length : Int) - 1, 0, _, 0, [], by omega, by omega, rfl, rfl, by simp, (show ([] : List Rv).length = 0 from rfl), (show (l.length : Int) - 1 + ((0 : Nat) : Int) + 1 = (l.length : Int) by omega), (show [] = V.take 0 from rfl), HR0.out.2.but HBu.out (by omega), .inl rfl, But.refl _ _⟩
        case round =>
          obtain ⟨z, t, st, ct, p, z0, z1, rfl, rfl, hp6, HPT, HZT, HPV, hR, hLi, hBu⟩ := hrel
          have hEz : Ext w4 wr := hEr.below (hBu.to_below (B := w4.heap.size) (by omega) hEr.size) (Nat.le_refl _)
          by_cases hz : 0 ≤ z
          · obtain ⟨m, rfl⟩ := Int.eq_ofNat_of_zero_le hz
            have hm2 : m < l.length := by omega
            obtain ⟨gl, ol, rfl, hgl, q0, q1, q2⟩ := (HL4.out.ext hEz).at hm2
            have htl : t < l.length := by have := HZT.out; omega
            have HKS : Hid (V.take t ++ [⟨(l.getD m Rv.z).c, (l.getD m Rv.z).v, (l.getD m Rv.z).s⟩] = V.take (t + 1)) := hide (by rw [HV.out]; exact takeRev htl (by rw [show l.length - 1 - t = m by have := HZT.out; omega]))
            obtain ⟨rc, hrc⟩ : ∃ rc, rc = (l.getD m Rv.z).c := ⟨_, rfl⟩; rw [← hrc] at q0 HKS
            obtain ⟨rv, hrv⟩ : ∃ rv, rv = (l.getD m Rv.z).v := ⟨_, rfl⟩; rw [← hrv] at q1 HKS
            obtain ⟨rs, hrs⟩ : ∃ rs, rs = (l.getD m Rv.z).s := ⟨_, rfl⟩; rw [← hrs] at q2 HKS
            clear hrc hrv hrs htl
            have A1 := Box.new wr #[.int .i64 rc, .int .i64 rv, .int .i64 rs] 31
            have RA := hR.ext ((Ext.refl wr).alloc (.cells #[.int .i64 rc, .int .i64 rv, .int .i64 rs] 31))
            have hzB : w4.heap.size + 1 ≤ (wr.alloc (.cells #[.int .i64 rc, .int .i64 rv, .int .i64 rs] 31)).heap.size := by have := hEz.size; simp; omega
            have HBA := hide (hBu.alloc (.cells #[.int .i64 rc, .int .i64 rv, .int .i64 rs] 31))
            have HLi2 := hide hLi
            have hws : IntKind.i64.wrap ((m : Int) - 1) = (m : Int) - 1 := IntWalk.i64_in _ (by omega)
            have HP6 := hide (show p.length + 1 ≤ 6 by have := HPT.out; have := HZT.out; omega)
            clear hLi hBu
            go_wp2_with (first | (at_builtin; refine append_rv rfl (.tmp 85) (.tmp 90) rfl (w4.heap.size + 1) _ st ct p.length _ p ⟨rc, rv, rs⟩ _ rfl rfl rfl A1 RA (by omega) hzB ?_; intro g9 c9 w9 R9 hb9 ha9 hc9; have H9 := hide (And.intro hb9 (And.intro ha9 hc9)); clear hb9 ha9 hc9))
            obtain ⟨hLi9, hBu9⟩ := lies_grow HLi2.out HBA.out H9.out.1 H9.out.2.1 H9.out.2.2
            have HO9 := hide (show p ++ [⟨rc, rv, rs⟩] = V.take (t + 1) by rw [HPV.out]; exact HKS.out)
            have HT9 := hide (show (p ++ [(⟨rc, rv, rs⟩ : Rv)]).length = t + 1 by rw [← len_snocV p, HPT.out])
            have HZ9 := hide (show (m : Int) - 1 + ((t + 1 : Nat) : Int) + 1 = (l.length : Int) by have := HZT.out; omega)
            clear H9 HBA HLi2 A1 RA hzB
            go_wp2
            go_roundw
            case rel => exact ⟨(m : Int) - 1, t + 1, _, _, p ++ [⟨rc, rv, rs⟩], by omega, by omega, by first | rfl | (simp [hws]), by rw [len_snocV p], by rw [← len_snocV p]; exact HP6.out, HT9, HZ9, HO9, R9, hLi9, hBu9⟩
            case measure => (first | (simp [intOf]; done) | (simp [intOf]; omega))
          · have hzd : decide (0 ≤ z) = false := decide_eq_false hz
            obtain rfl : p = V := by
              have h1 : t = V.length := by rw [HV.out, List.length_reverse]; have := HZT.out; omega
              rw [HPV.out, h1, List.take_length]
            have hRK : Rst wr sb o := HRK.out.rst.but hBu (fun b off e => by
              rcases HLi.out with h | ⟨b2, h, hb2⟩
              · rw [h] at e; cases e; omega
              · rw [h] at e; cases e; have := HZ5.out; omega)
            have hRT := hide hR.rst
            have hmt : S.tmod n = C := by rw [Int.tmod_eq_emod_of_nonneg (by omega)]; exact HCS.out.symm
            have hmt2 : S % n = C := HCS.out.symm
            clear hR hLi hBu HPV
            go_wp2_with fail; refine (HKP.out sb cb _ hRK).mono ?_; rintro e w7 ⟨rfl, E7⟩
            go_wp2_with fail; refine (HRV.out st ct _ (hRT.out.ext E7)).mono ?_; rintro e w8 ⟨rfl, E8⟩
            go_wp2
            go_ret
            exact ⟨rfl, E1.trans (E14.trans (hEz.trans (E7.trans E8)))⟩
  · have hs0 : dwS l n < 0 := by omega
    obtain ⟨S, hS⟩ : ∃ S, S = dwS l n := ⟨_, rfl⟩; rw [← hS] at HP1 HP2 h0 hs0
    obtain ⟨C, hC⟩ : ∃ C, C = dwC l n := ⟨_, rfl⟩; rw [← hC] at HP1 HP2
    clear hS hC
    have hss : ((S : Int) != S) = false := by simp
    have hcc : ((C : Int) != C) = false := by simp
    have hse : ((S : Int) == S) = true := by simp
    have hce : ((C : Int) == C) = true := by simp
    go_wp2_with fail; refine (HP1.out _ (Ext.refl _)).mono ?_; rintro e w2 ⟨rfl, E2⟩
    go_wp2_with fail; refine (HP2.out _ E2).mono ?_; rintro e w3 ⟨rfl, E3⟩
    go_wp2
    go_ret
    exact ⟨rfl, E1.trans (E2.trans E3)⟩
end Go.Proofs.Ytgmhodmgbhpdaad
