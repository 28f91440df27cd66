/- Chapter 3: exchanged turns: contracts of the program and of the model. -/
import Derived.Test.YthbkkbcbhhmhoacOrd1
import Derived.Test.YthbkkbcbhhmhoacDrawB
namespace Go.Proofs.Ythbkkbcbhhmhoac
open Go.ChangeShapes Go.WideShapes Go.ChangeAt Go.RowKit Go.Joins Go.Sort
set_option linter.unusedVariables false

def swOk (l : List Int) (a b : Int) : Prop := vo l = true ∧ a ∈ l ∧ b ∈ l
instance (l : List Int) (a b : Int) : Decidable (swOk l a b) := by unfold swOk; infer_instance
/-- an order with two turns exchanged -/
def swpL (l : List Int) (a b : Int) : List Int := if swOk l a b then (l.set (plc l a).toNat b).set (plc l b).toNat a else []
theorem swpL_yes {l : List Int} {a b : Int} (h : swOk l a b) : swpL l a b = (l.set (plc l a).toNat b).set (plc l b).toNat a := if_pos h
theorem swpL_no {l : List Int} {a b : Int} (h : ¬ swOk l a b) : swpL l a b = [] := if_neg h
theorem swpL_len (l : List Int) (a b : Int) : (swpL l a b).length ≤ l.length := by
  unfold swpL; split
  · rw [List.length_set, List.length_set]; exact Nat.le_refl _
  · simp
theorem plc_spot {l : List Int} {a : Int} (h : a ∈ l) : ∃ k : Nat, plc l a = (k : Int) ∧ k < l.length := by
  refine ⟨l.idxOf a, ?_, List.idxOf_lt_length_iff.2 h⟩
  unfold plc; rw [if_pos h]
theorem plc_of {l : List Int} {a : Int} (h : 0 ≤ plc l a) : a ∈ l := by
  by_cases h2 : a ∈ l
  · exact h2
  · rw [plc_out h2] at h; omega

/-- 'copy_all', where the world is told by an equation -/
theorem copy_at {ops : Array Oper} {rest : List Oper} {o : Oper} {a : Act} {Q : Exit → Act → World → Prop} {wz w1 : World} {sa : Option Addr} {cap : Nat} {l : List Int} {d s : Operand}
    (ho : o.op = .call { callee := .builtin .copy, args := #[d, s], argTypes := #[22, 22] }) (hgd : o.guard = none) (hw : wz = w1.alloc (.cells (ints (zeros l.length)) 3)) (hd : a.eval d = .slice (some ⟨w1.heap.size, 0, none⟩) l.length l.length) (hs : a.eval s = .slice sa l.length cap)
    (h : Lst w1 sa l) (hk : ∀ w2, Arr w2 w1.heap.size l → Ext w1 w2 → wpList Try.prog ops Q rest (a.put o.dst (goInt l.length)) w2) :
    wpList Try.prog ops Q (o :: rest) a wz := by
  subst hw; exact copy_all hgd ho hd hs h hk

set_option maxHeartbeats 300000 in
theorem implSwap (sa : Option Addr) (cap : Nat) (l : List Int) (a b : Int) (w : World) (h : Lst w sa l) (hl : l.length ≤ 2000000) (hcap : l.length ≤ cap) :
    Calls Try.prog 30 #[.slice sa l.length cap, .int .i64 a, .int .i64 b] w (RetList (swpL l a b) w) := by
  have H := hide h; clear h
  have HA := hide (implTurn sa cap l a w H.out hl hcap)
  have HB := hide (implTurn sa cap l b w H.out hl hcap)
  by_cases hv : vo l = true
  · rw [tno_yes hv] at HA HB
    by_cases ha : a ∈ l
    · obtain ⟨i, hi, hil⟩ := plc_spot ha
      rw [hi] at HA
      by_cases hb : b ∈ l
      · obtain ⟨j, hj, hjl⟩ := plc_spot hb
        rw [hj] at HB
        have HF := hide (show swpL l a b = (l.set i b).set j a by rw [swpL_yes ⟨hv, ha, hb⟩, hi, hj, Int.toNat_natCast, Int.toNat_natCast])
        have hmk := run_makeInts l.length hl
        clear hi hj ha hb hv
        go_enter Try.func30, Try.ntmps30
        go_wp2_with fail; refine (HA.out).mono ?_; rintro e w' ⟨rfl, rfl⟩
        go_wp2_with fail; refine (HB.out).mono ?_; rintro e w' ⟨rfl, rfl⟩
        by_cases hij : i = j
        · subst hij
          go_wp2_with ((refine copy_at (w1 := w) (l := l) (sa := sa) (cap := cap) (d := .tmp 25) (s := .tmp 26) rfl rfl rfl rfl rfl H.out ?_; intro w2 A2 E2; have cv := A2.cell hil; have fv := A2.free i))
          go_ret
          have A4 := (A2.set i b).set i a
          rw [← HF.out] at A4
          have HL := hide (show (swpL l a b).length = l.length by rw [HF.out, List.length_set, List.length_set])
          refine ⟨some ⟨w.heap.size, 0, none⟩, l.length, by rw [HL.out]; rfl, ?_, (E2.setCell (Nat.le_refl _) _).setCell (Nat.le_refl _) _⟩
          have := A4.row (base := w.heap.size) (Nat.le_refl _) (by rw [HL.out]; omega)
          rwa [HL.out] at this
        · go_wp2_with ((refine copy_at (w1 := w) (l := l) (sa := sa) (cap := cap) (d := .tmp 25) (s := .tmp 26) rfl rfl rfl rfl rfl H.out ?_; intro w2 A2 E2; have cv := A2.cell hil; have fv := A2.free i; have cw := A2.cell hjl; have fw := A2.free j))
          go_ret
          have A4 := (A2.set i b).set j a
          rw [← HF.out] at A4
          have HL := hide (show (swpL l a b).length = l.length by rw [HF.out, List.length_set, List.length_set])
          refine ⟨some ⟨w.heap.size, 0, none⟩, l.length, by rw [HL.out]; rfl, ?_, (E2.setCell (Nat.le_refl _) _).setCell (Nat.le_refl _) _⟩
          have := A4.row (base := w.heap.size) (Nat.le_refl _) (by rw [HL.out]; omega)
          rwa [HL.out] at this
      · have HF := hide (swpL_no (l := l) (a := a) (b := b) fun h => hb h.2.2)
        rw [plc_out hb] at HB
        clear hi ha hb hv
        go_enter Try.func30, Try.ntmps30
        go_wp2_with fail; refine (HA.out).mono ?_; rintro e w' ⟨rfl, rfl⟩
        go_wp2_with fail; refine (HB.out).mono ?_; rintro e w' ⟨rfl, rfl⟩
        go_wp2
        go_ret
        exact RetList.of (base := 0) HF.out (Row.nil _ _) (Ext.refl _)
    · have HF := hide (swpL_no (l := l) (a := a) (b := b) fun h => ha h.2.1)
      rw [plc_out ha] at HA
      obtain ⟨q, hq⟩ : ∃ q, q = plc l b := ⟨_, rfl⟩; rw [← hq] at HB
      clear hq ha hv
      go_enter Try.func30, Try.ntmps30
      go_wp2_with fail; refine (HA.out).mono ?_; rintro e w' ⟨rfl, rfl⟩
      go_wp2_with fail; refine (HB.out).mono ?_; rintro e w' ⟨rfl, rfl⟩
      go_wp2
      go_ret
      exact RetList.of (base := 0) HF.out (Row.nil _ _) (Ext.refl _)
  · have HF := hide (swpL_no (l := l) (a := a) (b := b) fun h => hv h.1)
    rw [Bool.not_eq_true] at hv
    rw [tno_no hv] at HA HB
    clear hv
    go_enter Try.func30, Try.ntmps30
    go_wp2_with fail; refine (HA.out).mono ?_; rintro e w' ⟨rfl, rfl⟩
    go_wp2_with fail; refine (HB.out).mono ?_; rintro e w' ⟨rfl, rfl⟩
    go_wp2
    go_ret
    exact RetList.of (base := 0) HF.out (Row.nil _ _) (Ext.refl _)
set_option maxHeartbeats 1000000 in
theorem specSwap (sa : Option Addr) (cap : Nat) (l : List Int) (a b : Int) (w : World) (h : Lst w sa l) (hl : l.length ≤ 2000000) (hcap : l.length ≤ cap) :
    Calls Try.prog 29 #[.slice sa l.length cap, .int .i64 a, .int .i64 b] w (RetList (swpL l a b) w) := by
  have H := hide h; clear h
  have HA := hide (fun w1 (e : Ext w w1) => specPlaceIn sa cap l.length l a w1 (H.out.ext e) rfl hl)
  have HB := hide (fun w1 (e : Ext w w1) => specPlaceIn sa cap l.length l b w1 (H.out.ext e) rfl hl)
  by_cases hv : vo l = true
  · by_cases ha : a ∈ l
    · obtain ⟨i, hi, hil⟩ := plc_spot ha
      rw [hi] at HA
      by_cases hb : b ∈ l
      · obtain ⟨j, hj, hjl⟩ := plc_spot hb
        rw [hj] at HB
        have HF := hide (show swpL l a b = (l.set i b).set j a by rw [swpL_yes ⟨hv, ha, hb⟩, hi, hj, Int.toNat_natCast, Int.toNat_natCast])
        clear hi hj ha hb
        go_enter Try.func29, Try.ntmps29
        go_wp2_with fail; refine (Ret.eqB (specvO _ _ _ _ H.out hl hcap) hv).mono ?_; rintro e w1 ⟨rfl, E1⟩
        have hl0 : 0 < l.length := by omega
        go_wp2_with fail; refine (HA.out _ E1).mono ?_; rintro e w' ⟨rfl, rfl⟩
        go_wp2_with fail; refine (HB.out _ E1).mono ?_; rintro e w' ⟨rfl, rfl⟩
        go_wp2_with fail; refine (copyInts_any sa cap l _ (H.out.ext E1) hl hl0).mono ?_; rintro e w2 ⟨s2, c2, rfl, R2, hb2⟩
        have E2 := E1.trans (Ext.of hb2)
        obtain ⟨g, rfl, hgl, hgs, hfz, hcl⟩ := R2.spot hl0
        have hgw : w.heap.size ≤ g := Nat.le_trans E1.size hgl
        have ci := hcl i hil
        have fi := hfz i
        obtain ⟨x, hx⟩ : ∃ x, x = l.getD i 0 := ⟨_, rfl⟩; rw [← hx] at ci
        have E3 := E2.setCell hgw (o := i) (.int .i64 b)
        by_cases hij : i = j
        · subst hij
          clear hx hcl hfz hb2
          go_wp2_with fail; refine (HA.out _ E2).mono ?_; rintro e w' ⟨rfl, rfl⟩
          go_wp2_with fail; refine (HB.out _ E3).mono ?_; rintro e w' ⟨rfl, rfl⟩
          go_wp2
          go_ret
          have R4 := (R2.store i b).store i a
          rw [← HF.out] at R4
          have HL := hide (show (swpL l a b).length = l.length by rw [HF.out, List.length_set, List.length_set])
          exact ⟨some ⟨g, 0, none⟩, c2, by rw [HL.out]; rfl, R4.le E1.size, E3.setCell hgw _⟩
        · have cj := hcl j hjl
          have fj := hfz j
          obtain ⟨y, hy⟩ : ∃ y, y = l.getD j 0 := ⟨_, rfl⟩; rw [← hy] at cj
          clear hx hy hcl hfz hb2
          go_wp2_with fail; refine (HA.out _ E2).mono ?_; rintro e w' ⟨rfl, rfl⟩
          go_wp2_with fail; refine (HB.out _ E3).mono ?_; rintro e w' ⟨rfl, rfl⟩
          go_wp2
          go_ret
          have R4 := (R2.store i b).store j a
          rw [← HF.out] at R4
          have HL := hide (show (swpL l a b).length = l.length by rw [HF.out, List.length_set, List.length_set])
          exact ⟨some ⟨g, 0, none⟩, c2, by rw [HL.out]; rfl, R4.le E1.size, E3.setCell hgw _⟩
      · have HF := hide (swpL_no (l := l) (a := a) (b := b) fun h => hb h.2.2)
        rw [plc_out hb] at HB
        clear hi ha hb
        go_enter Try.func29, Try.ntmps29
        go_wp2_with fail; refine (Ret.eqB (specvO _ _ _ _ H.out hl hcap) hv).mono ?_; rintro e w1 ⟨rfl, E1⟩
        go_wp2_with fail; refine (HA.out _ E1).mono ?_; rintro e w' ⟨rfl, rfl⟩
        go_wp2_with fail; refine (HB.out _ E1).mono ?_; rintro e w' ⟨rfl, rfl⟩
        go_wp2
        go_ret
        exact RetList.of (base := 0) HF.out (Row.nil _ _) E1
    · have HF := hide (swpL_no (l := l) (a := a) (b := b) fun h => ha h.2.1)
      rw [plc_out ha] at HA
      clear ha
      go_enter Try.func29, Try.ntmps29
      go_wp2_with fail; refine (Ret.eqB (specvO _ _ _ _ H.out hl hcap) hv).mono ?_; rintro e w1 ⟨rfl, E1⟩
      go_wp2_with fail; refine (HA.out _ E1).mono ?_; rintro e w' ⟨rfl, rfl⟩
      go_wp2
      go_ret
      exact RetList.of (base := 0) HF.out (Row.nil _ _) E1
  · have HF := hide (swpL_no (l := l) (a := a) (b := b) fun h => hv h.1)
    rw [Bool.not_eq_true] at hv
    go_enter Try.func29, Try.ntmps29
    go_wp2_with fail; refine (Ret.eqB (specvO _ _ _ _ H.out hl hcap) hv).mono ?_; rintro e w1 ⟨rfl, E1⟩
    go_wp2
    go_ret
    exact RetList.of (base := 0) HF.out (Row.nil _ _) E1
end Go.Proofs.Ythbkkbcbhhmhoac
