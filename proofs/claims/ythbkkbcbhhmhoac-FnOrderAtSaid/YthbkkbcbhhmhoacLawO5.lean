/- Chapter 3: numbers of orders and of their mirrors in plain numbers, and the walk of their law, at drawn arguments. -/
import Derived.Test.YthbkkbcbhhmhoacDrawQ
import Derived.Test.YthbkkbcbhhmhoacOrdC
namespace Go.Proofs.Ythbkkbcbhhmhoac
open Go.ChangeShapes Go.WideShapes Go.ChangeAt Go.RowKit Go.Joins Go.Sort
set_option linter.unusedVariables false

/-- what the last turns add to the number -/
def rmd (l : List Int) : Nat → Nat
  | 0 => 0
  | t + 1 => bfr l (l.length - 1 - t) * fac t + rmd l t
theorem rmd_lt {l : List Int} (h : vo l = true) : ∀ t, t ≤ l.length → rmd l t < fac t := by
  intro t
  induction t with
  | zero => intro _; exact Nat.one_pos
  | succ t ih =>
    intro ht
    have h1 := ih (by omega)
    have h2 := (bfr_plc h (show l.length - 1 - t < l.length by omega)).2.2
    show bfr l (l.length - 1 - t) * fac t + rmd l t < (t + 1) * fac t
    have h3 : (bfr l (l.length - 1 - t) + 1) * fac t ≤ (t + 1) * fac t := Nat.mul_le_mul_right _ (by omega)
    rw [Nat.add_mul, Nat.one_mul] at h3
    omega
theorem rmd_succ (l : List Int) {c : Nat} (hc : c < l.length) : rmd l (l.length - c) = bfr l c * fac (l.length - 1 - c) + rmd l (l.length - (c + 1)) := by
  have e : l.length - c = (l.length - 1 - c) + 1 := by omega
  rw [e]
  show bfr l (l.length - 1 - (l.length - 1 - c)) * fac (l.length - 1 - c) + rmd l (l.length - 1 - c) = _
  rw [show l.length - 1 - (l.length - 1 - c) = c by omega, show l.length - 1 - c = l.length - (c + 1) by omega]
theorem rk_rmd (l : List Int) : ∀ c, c ≤ l.length → rkI l c + rmd l (l.length - c) = rmd l l.length := by
  intro c
  induction c with
  | zero => intro _; simp [rkI]
  | succ c ih =>
    intro hc
    have h1 := ih (by omega)
    rw [rmd_succ l (show c < l.length by omega)] at h1
    show rkI l c + bfr l c * fac (l.length - 1 - c) + _ = _
    omega
theorem rk_full (l : List Int) : rkI l l.length = rmd l l.length := by
  have := rk_rmd l l.length (Nat.le_refl _)
  rw [Nat.sub_self] at this
  exact this
theorem plc_get {L : List Int} {x : Int} {k : Nat} (h : plc L x = (k : Int)) : L.getD k 0 = x := by
  by_cases hm : x ∈ L
  · unfold plc at h
    rw [if_pos hm] at h
    have hk : L.idxOf x = k := by omega
    have hl := List.idxOf_lt_length_iff.2 hm
    have h2 := List.getElem_idxOf hl
    rw [List.getD_eq_getElem?_getD, ← hk, List.getElem?_eq_getElem hl, h2]; rfl
  · rw [plc_out hm] at h; omega
theorem oSt_rk {l : List Int} (h : vo l = true) : ∀ c, c ≤ l.length → oSt l.length (rmd l l.length) c = (lft l c, rmd l (l.length - c)) ∧ oLs l.length (rmd l l.length) c = l.take c := by
  intro c
  induction c with
  | zero => intro _; exact ⟨rfl, by simp [oLs]⟩
  | succ c ih =>
    intro hc
    obtain ⟨h1, h2⟩ := ih (by omega)
    have hcl : c < l.length := by omega
    have hr := rmd_lt h (l.length - (c + 1)) (by omega)
    have hf := fac_pos (l.length - 1 - c)
    rw [show l.length - (c + 1) = l.length - 1 - c by omega] at hr
    have hdiv : rmd l (l.length - c) / fac (l.length - 1 - c) = bfr l c := by
      rw [rmd_succ l hcl, show l.length - (c + 1) = l.length - 1 - c by omega, Nat.mul_comm, Nat.mul_add_div hf, Nat.div_eq_of_lt hr, Nat.add_zero]
    have hmod : rmd l (l.length - c) % fac (l.length - 1 - c) = rmd l (l.length - (c + 1)) := by
      rw [rmd_succ l hcl, show l.length - (c + 1) = l.length - 1 - c by omega, Nat.mul_comm, Nat.mul_add_mod, Nat.mod_eq_of_lt hr]
    have hg := plc_get (bfr_plc h hcl).1
    have hel : oEl l.length (rmd l l.length) c = l.getD c 0 := by
      unfold oEl; rw [h1]
      show (mems (lft l c)).getD (rmd l (l.length - c) / fac (l.length - 1 - c)) 0 = _
      rw [hdiv, hg]
    refine ⟨?_, ?_⟩
    · show (mns (oSt l.length (rmd l l.length) c).1 (oEl l.length (rmd l l.length) c).toNat, (oSt l.length (rmd l l.length) c).2 % fac (l.length - 1 - c)) = _
      rw [hel, h1]
      show (_, rmd l (l.length - c) % _) = _
      rw [hmod]; rfl
    · show oLs l.length (rmd l l.length) c ++ [oEl l.length (rmd l l.length) c] = _
      rw [h2, hel, take_snoc l c hcl]
theorem ord_rnk {l : List Int} (h : rOk l) : ordL (rnk l) (l.length : Int) = l := by
  have hlt := rmd_lt h.1 l.length (Nat.le_refl _)
  have hok : oOk (rmd l l.length : Nat) (l.length : Nat) := ⟨⟨by have := (vo_facts h.1).1; omega, by have := h.2; omega⟩, by omega, by unfold fI; rw [Int.toNat_natCast]; omega⟩
  rw [rnk_yes h, rk_full, ordL_yes hok, (oSt_rk h.1 l.length (Nat.le_refl _)).2, List.take_length]
/-- the mirror of an order -/
def mir (l : List Int) : List Int := l.map fun x => (l.length : Int) - 1 - x
theorem mir_len (l : List Int) : (mir l).length = l.length := by simp [mir]
theorem mir_at (l : List Int) {i : Nat} (h : i < l.length) : (mir l).getD i 0 = (l.length : Int) - 1 - l.getD i 0 := by
  simp [mir, List.getD_eq_getElem?_getD, h]
theorem lsc_comp (K x : Int) (L : List Int) (h : x ∉ L) : lsc (K - x) (L.map fun y => K - y) + lsc x L = L.length := by
  induction L with
  | nil => rfl
  | cons a t ih =>
    rw [List.mem_cons, not_or] at h
    have := ih h.2
    show ((if K - a < K - x then 1 else 0) + lsc (K - x) (t.map fun y => K - y)) + ((if a < x then 1 else 0) + lsc x t) = t.length + 1
    by_cases h2 : a < x
    · rw [if_neg (by omega), if_pos h2]; omega
    · rw [if_pos (by omega), if_neg h2]; omega
theorem mir_vo {l : List Int} (h : vo l = true) : vo (mir l) = true := by
  obtain ⟨h1, hx, hn⟩ := vo_facts h
  refine vo_iff.2 ⟨by rw [mir_len]; exact h1, vmB_iff.2 ⟨fun x hm => ?_, ?_⟩⟩
  · rw [mir_len]
    obtain ⟨y, hy, rfl⟩ := List.mem_map.1 hm
    have := hx y hy
    omega
  · unfold mir
    exact List.pairwise_map.2 (hn.imp fun h e => h (by omega))
theorem mir_bfr {l : List Int} (h : vo l = true) {c : Nat} (hc : c < l.length) : bfr (mir l) c + bfr l c = l.length - 1 - c := by
  have h1 := (bfr_plc h hc).2.1
  have h2 := (bfr_plc (mir_vo h) (show c < (mir l).length by rw [mir_len]; exact hc)).2.1
  have hn := (vo_facts h).2.2
  have hd : l.getD c 0 ∉ l.drop (c + 1) := by
    have : (l.drop c).Nodup := List.Sublist.nodup (List.drop_sublist _ _) hn
    rw [drop_head hc] at this
    exact (List.nodup_cons.1 this).1
  have h3 := lsc_comp ((l.length : Int) - 1) (l.getD c 0) (l.drop (c + 1)) hd
  rw [h1, h2, mir_at l hc]
  have e : (mir l).drop (c + 1) = (l.drop (c + 1)).map fun y => (l.length : Int) - 1 - y := by unfold mir; rw [List.map_drop]
  rw [e, h3, List.length_drop]; omega
theorem mir_rk {l : List Int} (h : vo l = true) : ∀ c, c ≤ l.length → rkI (mir l) c + rkI l c + fac (l.length - c) = fac l.length := by
  intro c
  induction c with
  | zero => intro _; simp [rkI]
  | succ c ih =>
    intro hc
    have h1 := ih (by omega)
    have h2 := mir_bfr h (show c < l.length by omega)
    have e : l.length - c = (l.length - 1 - c) + 1 := by omega
    rw [e, fac_succ] at h1
    show rkI (mir l) c + bfr (mir l) c * fac ((mir l).length - 1 - c) + (rkI l c + bfr l c * fac (l.length - 1 - c)) + fac (l.length - (c + 1)) = _
    rw [mir_len, show l.length - (c + 1) = l.length - 1 - c by omega, ← h1, ← h2]
    rw [Nat.add_mul (bfr (mir l) c + bfr l c) 1, Nat.add_mul]
    omega
theorem mir_rnk {l : List Int} (h : rOk l) : rnk (mir l) = fI (l.length : Int) - 1 - rnk l := by
  have h1 := mir_rk h.1 l.length (Nat.le_refl _)
  rw [Nat.sub_self] at h1
  have h2 : rOk (mir l) := ⟨mir_vo h.1, by rw [mir_len]; exact h.2⟩
  rw [rnk_yes h, rnk_yes h2, mir_len]
  unfold fI
  rw [Int.toNat_natCast]
  have : fac 0 = 1 := rfl
  omega
theorem rnk_lt {l : List Int} (h : rOk l) : rnk l < fI (l.length : Int) := by
  have h1 := rmd_lt h.1 l.length (Nat.le_refl _)
  rw [rnk_yes h, rk_full]
  unfold fI
  rw [Int.toNat_natCast]; omega
theorem mir_take {l : List Int} {c : Nat} (h : c < l.length) : (mir l).take c ++ [(l.length : Int) - 1 - l.getD c 0] = (mir l).take (c + 1) := by
  rw [take_snoc (mir l) c (by rw [mir_len]; exact h), mir_at l h]
set_option maxHeartbeats 400000 in
theorem lawFac (x : Int) (w : World) (hx0 : -10 ≤ x) (hx : x ≤ 8) : Calls Try.prog 32 #[.int .i64 x] w (Same (.int .i64 (fI x)) w) := by
  go_enter Try.func32, Try.ntmps32
  go_wp2
  go_loop [3, 4] (fun a i => ∃ c q : Nat, ((c : Int) ≤ x ∨ c = 1) ∧ 1 ≤ c ∧ c ≤ 8 ∧ i = .int .i64 ((c : Int) + 1) ∧ a = .int .i64 q ∧ Hid (q = fac c) ∧ q ≤ 40320) (fun _ i => 10 - (intOf i).toNat)
  case atStart => exact ⟨1, 1, .inr rfl, by omega, by omega, rfl, rfl, rfl, by omega⟩
  case round =>
    obtain ⟨c, q, hc, hc1, hc8, rfl, rfl, HQ, hq⟩ := hrel
    by_cases hlt : (c : Int) + 1 ≤ x
    · have HQ2 := hide (show q * (c + 1) = fac (c + 1) by rw [HQ.out]; show _ = (c + 1) * fac c; rw [Nat.mul_comm])
      have hq2 : q * (c + 1) ≤ 40320 := by rw [HQ2.out]; exact fac_bd _ (by omega)
      have hbd : (0 : Int) ≤ (q : Int) * ((c : Int) + 1) ∧ (q : Int) * ((c : Int) + 1) ≤ 40320 := by
        have e : (q : Int) * ((c : Int) + 1) = ((q * (c + 1) : Nat) : Int) := by push_cast; rfl
        rw [e]; exact ⟨Int.natCast_nonneg _, Int.ofNat_le.2 hq2⟩
      go_wp2
      go_round
      case rel => exact ⟨c + 1, q * (c + 1), .inl (by omega), by omega, by omega, by push_cast; rfl, by push_cast; rfl, HQ2, hq2⟩
      case measure => simp [intOf]; omega
    · have HF := hide (show (q : Int) = fI x by
        unfold fI
        rcases hc with h1 | h1
        · rw [show x.toNat = c by omega, HQ.out]
        · by_cases h2 : x = 1
          · rw [h2, HQ.out, h1]; rfl
          · rw [show x.toNat = 0 by omega, HQ.out, h1]; rfl)
      go_wp2
      go_ret
      exact Same.int HF.out

set_option maxHeartbeats 1000000 in
theorem walkFnRankOrder (w : World) (sa : Option Addr) (len cap : Nat) (h : Code w sa len cap) (hl : len ≤ maxLen) :
    Calls Try.prog 7 #[.slice sa len cap] w fun e w' => e = .returned (.bool true) ∧ Below w.heap.size w w' := by
  have hl' := hl
  unfold maxLen at hl'
  by_cases hbig : 1048576 < len
  · clear h hl
    go_enter Try.func7, Try.ntmps7
    go_wp2
    go_ret
    exact ⟨rfl, Below.refl _ _⟩
  · go_enter Try.func7, Try.ntmps7
    go_wp2_with fail
    refine (dDrawRankOrder sa len cap w h hl).mono ?_
    rintro e w1 ⟨sb, cb, l, rfl, hR, l12, E1⟩
    have HL := hide hR.lst
    have hcap := hR.cap
    clear h hl hl' hbig hR
    have HP1 := hide (fun w2 (e : Ext w1 w2) => implRank sb cb l w2 (HL.out.ext e) (by omega) hcap)
    have HP2 := hide (fun w2 (e : Ext w1 w2) => specRank sb cb l w2 (HL.out.ext e) (by omega) hcap)
    by_cases hok : rOk l
    · have h8 := hok.2
      have hx := (vo_facts hok.1).2.1
      have HXB := hide (fun c (hc : c < l.length) => hx _ (getD_mem hc))
      have hlt := rnk_lt hok
      have hr0 : 0 ≤ rnk l := by rw [rnk_yes hok]; omega
      have hfb := fI_bd (x := (l.length : Int)) (by omega)
      have HOR := hide (fun w2 => implOrd (rnk l) (l.length : Int) w2)
      rw [ord_rnk hok] at HOR
      have HMR := hide (fun s c w2 (h : Lst w2 s (mir l)) (hc : (mir l).length ≤ c) => implRank s c (mir l) w2 h (by rw [mir_len]; omega) hc)
      rw [mir_rnk hok, mir_len] at HMR
      have HFC := hide (fun w2 => lawFac (l.length : Int) w2 (by omega) (by omega))
      have HMT := hide (fun c (hc : c < l.length) => @mir_take l c hc)
      have HML := hide (mir_len l)
      have HMF := hide (show (mir l).take l.length = mir l from List.take_of_length_le (by rw [mir_len]; exact Nat.le_refl _))
      have HM0 : Hid ([] = (mir l).take 0) := hide rfl
      have hEQ := fun sa ca sb cb w2 ha hb => equalInts_any sa sb l l ca cb w2 ha hb (by omega) (by omega)
      rw [decide_eq_true (rfl : l = l)] at hEQ
      have HEQ := hide hEQ
      clear hEQ
      obtain ⟨q, hq⟩ : ∃ q, q = rnk l := ⟨_, rfl⟩; rw [← hq] at HP1 HP2 hlt hr0 HOR HMR
      obtain ⟨fm, hfm⟩ : ∃ fm, fm = fI (l.length : Int) := ⟨_, rfl⟩; rw [← hfm] at hlt hfb HMR HFC
      obtain ⟨M, hM⟩ : ∃ M, M = mir l := ⟨_, rfl⟩; rw [← hM] at HMR HMT HML HMF HM0
      have hd0 : ((q : Int) != q) = false := by simp
      have hd1 : ((fm - 1 - q : Int) == fm - 1 - q) = true := by simp
      clear hq hfm hM hx hok
      go_wp2_with fail; refine (HP1.out _ (Ext.refl _)).mono ?_; rintro e w2 ⟨rfl, E2⟩
      go_wp2_with fail; refine (HP2.out _ E2).mono ?_; rintro e w3 ⟨rfl, E3⟩
      go_wp2_with fail
      refine (HFC.out _).mono ?_
      rintro e w' ⟨rfl, rfl⟩
      have E23 := E2.trans E3
      have R0 : Row w3.heap.size (w3.alloc (.cells #[] 3)) (some ⟨w3.heap.size, 0, none⟩) 0 [] := Row.madeAt w3.heap.size w3.heap.size w3 rfl (Nat.le_refl _)
      have EE0 := (Ext.refl w3).alloc (.cells #[] 3)
      go_wp2
      go_loopw [6, 7] (fun v i wr => ∃ (c b c2 : Nat) (o : List Int), c ≤ l.length ∧ i = .int .i64 c ∧ v = .slice (some ⟨b, 0, none⟩) c c2 ∧ Hid (o = M.take c) ∧ Hid (o.length = c) ∧ Row w3.heap.size wr (some ⟨b, 0, none⟩) c2 o ∧ Ext w3 wr) (fun _ i _ => l.length - (intOf i).toNat)
      case atStart => exact ⟨0, _, 0, [], Nat.zero_le _, rfl, rfl, HM0, (show ([] : List Int).length = 0 from rfl), R0, EE0⟩
      case round =>
        clear R0 EE0
        obtain ⟨c, b, c2, o, hc, rfl, rfl, HO, HOl, hR, hE⟩ := hrel
        by_cases hlc : c < l.length
        · obtain ⟨g, off, rfl, hg, c1⟩ := (HL.out.ext (E23.trans hE)).at hlc
          have hxb := HXB.out c hlc
          have HS := hide (show o ++ [(l.length : Int) - 1 - l.getD c 0] = M.take (c + 1) by rw [HO.out]; exact HMT.out c hlc)
          have HSl := hide (show (o ++ [(l.length : Int) - 1 - l.getD c 0]).length = c + 1 by rw [List.length_append, HOl.out]; rfl)
          obtain ⟨x, hx0⟩ : ∃ x, x = l.getD c 0 := ⟨_, rfl⟩; rw [← hx0] at c1 hxb HS HSl
          clear hx0
          go_wp2_with (first | (at_builtin; refine append_int_atN rfl (.tmp 37) (.tmp 46) rfl w3.heap.size wr b c c2 o ((l.length : Int) - 1 - x) _ rfl rfl HOl.out hR (by omega) hE.size ?_; intro g3 cap3 w5 R3 hb3 hg3 hk3))
          have E3' := hE.below hb3 (Nat.le_refl _)
          clear hb3 hg3 hk3
          go_wp2
          go_roundw
          case rel => exact ⟨c + 1, g3, cap3, _, by omega, by go_num, rfl, HS, HSl, R3, E3'⟩
          case measure => simp [intOf]; omega
        · obtain rfl : c = l.length := by omega
          have HOM := hide (show o = M by rw [HO.out]; exact HMF.out)
          have hcap2 := hR.cap
          have HLM := hide (show Lst wr (some ⟨b, 0, none⟩) M by have := hR.lst; rwa [HOM.out] at this)
          have hcM : l.length ≤ c2 := by have := HOl.out; rw [this] at hcap2; exact hcap2
          have hdl : decide (q < fm) = true := decide_eq_true hlt
          clear HO HOl HOM hR hcap2 HM0 HMF HMT
          go_wp2_with fail
          refine (HOR.out _).mono ?_
          rintro e w5 ⟨s5, c5, rfl, R5, hb5⟩
          have E5 := Ext.of hb5
          have L5 := hide R5.lst
          clear hb5 R5
          go_wp2_with fail; refine (HEQ.out s5 c5 sb cb _ L5.out (HL.out.ext ((E23.trans hE).trans E5))).mono ?_; rintro e w6 ⟨rfl, hb6⟩
          have E6 := Ext.of hb6
          clear hb6
          have E56 := E5.trans E6
          go_wp2_with fail; refine (HMR.out (some ⟨b, 0, none⟩) c2 _ (HLM.out.ext E56) hcM).mono ?_; rintro e w7 ⟨rfl, E7⟩
          have E := E1.trans ((E23.trans hE).trans (E56.trans E7))
          go_wp2
          go_ret
          exact ⟨rfl, E⟩
    · have hneg := rnk_no hok
      rw [hneg] at HP1 HP2
      clear hok hneg
      go_wp2_with fail; refine (HP1.out _ (Ext.refl _)).mono ?_; rintro e w2 ⟨rfl, E2⟩
      go_wp2_with fail; refine (HP2.out _ E2).mono ?_; rintro e w3 ⟨rfl, E3⟩
      go_wp2_with fail; refine (HP2.out _ (E2.trans E3)).mono ?_; rintro e w4 ⟨rfl, E4⟩
      have E := E1.trans ((E2.trans E3).trans E4)
      go_wp2
      go_ret
      exact ⟨rfl, E⟩
end Go.Proofs.Ythbkkbcbhhmhoac
