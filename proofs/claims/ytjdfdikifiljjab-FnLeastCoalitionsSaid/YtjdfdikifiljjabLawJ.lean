/- Chapter 2: lists joined: contracts. -/
import Derived.Test.YtjdfdikifiljjabLawW
import Derived.Test.YtjdfdikifiljjabPureG
import Derived.Deep.Upon
import Derived.Deep.AppendSrc
import Derived.Deep.RegionHeld3
namespace Go.Proofs.Ytjdfdikifiljjab
open Go.ChangeShapes Go.WideShapes Go.ChangeAt Go.RowKit Go.Joins Go.Sort
set_option linter.unusedVariables false

/-- nothing is appended -/
theorem append_none {ops : Array Oper} {rest : List Oper} {o : Oper} {a : Act} {Q : Exit → Act → World → Prop} (hgd : o.guard = none) (s x : Operand)
    (ho : o.op = .call { callee := .builtin .append, args := #[s, x], argTypes := #[22, 22] }) (w1 : World) (sa sx : Option Addr) (n cap cx : Nat)
    (hs : a.eval s = .slice sa n cap) (hx : a.eval x = .slice sx 0 cx) (hle : n ≤ cap) (h : wpList Try.prog ops Q rest (a.put o.dst (.slice sa n cap)) w1) :
    wpList Try.prog ops Q (o :: rest) a w1 := by
  obtain ⟨i0, hi, hz0, hz1, hz2⟩ := info_parts Try.infoInt
  refine wpList_plain hgd fun K hK' => ?_
  have hsrc : Src Try.prog i0.size 22 (.slice sx 0 cx) 0 [] w1 := by
    cases sx with
    | none => exact Src.ofNil w1 Try.underlying22 cx
    | some ad => exact Src.ofSlice w1 Try.underlying22 ad 0 cx [] (by simp) (fun j u hj => by simp at hj) (by simp)
  have hrun := run_append_nothing (P := Try.prog) w1 22 22 o.type 3 i0 Try.underlying22 hi sa n cap hle (.slice sx 0 cx) hsrc
  unfold Oper.wp
  simp [execOp, ho, resolve, invoke, builtin, hs, hx, hrun, Result.andThen]
  exact hK' _ _ h
/-- an append of a list in memory to a list of the call's own -/
theorem append_list {ops : Array Oper} {rest : List Oper} {o : Oper} {a : Act} {Q : Exit → Act → World → Prop} (hgd : o.guard = none) (s x : Operand)
    (ho : o.op = .call { callee := .builtin .append, args := #[s, x], argTypes := #[22, 22] }) (base : Nat) (w1 : World) (sa : Option Addr) (cap cx g off : Nat) (l1 l : List Int)
    (hs : a.eval s = .slice sa l1.length cap) (hx : a.eval x = .slice (some ⟨g, off, none⟩) l.length cx) (R : Row base w1 sa cap l1) (hl1 : l1.length ≤ 1000000) (hl : l.length ≤ 1000000) (h0 : 0 < l.length) (hb : base ≤ w1.heap.size)
    (hc : ∀ i, i < l.length → w1.cell? ⟨g, off + i, none⟩ = some (.int .i64 (l.getD i 0)))
    (h : ∀ g cap' w', Row base w' (some ⟨g, 0, none⟩) cap' (l1 ++ l) → Below base w1 w' → wpList Try.prog ops Q rest (a.put o.dst (.slice (some ⟨g, 0, none⟩) (l1.length + l.length) cap')) w') :
    wpList Try.prog ops Q (o :: rest) a w1 := by
  obtain ⟨i0, hi, hz0, hz1, hz2⟩ := info_parts Try.infoInt
  refine wpList_append_own _ hgd s x 22 ho base 3 i0 (.int .i64 0) 1 8 Try.underlying22 hi hz0 hz1 hz2 rfl (by decide) _ _ _ hs R.own ⟨g, off, none⟩ l.length cx (l.map (Value.int .i64)) hx (by simp) ?_ ?_ (by unfold maxLen; omega) (by omega) hb ?_
  · intro j u hj
    rw [List.getElem?_map] at hj
    by_cases hjl : j < l.length
    · have := hc j hjl
      rw [List.getD_eq_getElem?_getD] at this
      rw [List.getElem?_eq_getElem hjl] at hj this
      simp at hj this
      subst hj
      by_cases hj0 : j = 0
      · subst hj0; simpa [Addr.add] using this
      · simpa [Addr.add, hj0] using this
    · rw [List.getElem?_eq_none (by omega)] at hj; simp at hj
  · intro u hu
    obtain ⟨x, _, rfl⟩ := List.mem_map.1 hu
    rfl
  · intro v' w2 hown hgrow hnil
    obtain ⟨g', cap', rfl⟩ := ownsRow_form hown (by omega)
    refine h g' cap' w2 ?_ ((Below.refl _ _).grown hgrow hb fun k hk => (World.ownsRow.lt R.own k hk).1)
    show w2.ownsRow base 3 1 (.slice (some ⟨g', 0, none⟩) (l1 ++ l).length cap') (l1 ++ l).length ((l1 ++ l).map (Value.int .i64))
    rw [List.map_append, List.length_append]; exact hown
theorem Lst.cells {w : World} {sa : Option Addr} {l : List Int} (h : Lst w sa l) (h0 : 0 < l.length) : ∃ g off, sa = some ⟨g, off, none⟩ ∧ g < w.heap.size ∧ ∀ i, i < l.length → w.cell? ⟨g, off + i, none⟩ = some (.int .i64 (l.getD i 0)) := by
  rcases h with h | ⟨g, off, h1, h2, h3⟩
  · subst h; simp at h0
  · exact ⟨g, off, h1, h2, h3⟩
theorem Lst.drop {w : World} {g off : Nat} {l : List Int} (h : Lst w (some ⟨g, off, none⟩) l) (k : Nat) : Lst w (some ⟨g, off + k, none⟩) (l.drop k) := by
  rcases h with h | ⟨g2, off2, h1, h2, h3⟩
  · subst h; exact .inl (by simp)
  · cases h1
    refine .inr ⟨_, _, rfl, h2, fun i hi => ?_⟩
    rw [List.length_drop] at hi
    have := h3 (k + i) (by omega)
    rw [show off + k + i = off + (k + i) by omega, this]
    congr 2
    rw [List.getD_eq_getElem?_getD, List.getD_eq_getElem?_getD, List.getElem?_drop]
set_option maxHeartbeats 1000000 in
theorem join_any (sa sb : Option Addr) (ca cb na nb : Nat) (a b : List Int) (w : World) (ha : Lst w sa a) (hb : Lst w sb b) (hna : a.length = na) (hnb : b.length = nb) (la : na ≤ 1000) (lb : nb ≤ 1000) :
    Calls Try.prog 80 #[.slice sa na ca, .slice sb nb cb] w (RetList (a ++ b) w) := by
  have E0 := (Ext.refl w).alloc (.cells #[] 3)
  by_cases a0 : 0 < a.length
  · obtain ⟨ga, oa, rfl, hga, hca⟩ := ha.cells a0
    have HCA := hide (show ∀ i, i < a.length → (w.alloc (.cells #[] 3)).cell? ⟨ga, oa + i, none⟩ = some (.int .i64 (a.getD i 0)) from fun i hi => (E0.cell hga).trans (hca i hi))
    subst hna
    clear hca ha
    by_cases b0 : 0 < b.length
    · obtain ⟨gb, ob, rfl, hgb, hcb⟩ := hb.cells b0
      have HCB := hide hcb
      subst hnb
      clear hcb hb
      go_enter Try.func80, Try.ntmps80
      go_wp2_with (first | (at_builtin; refine append_all rfl (.tmp 5) (.tmp 6) rfl w.heap.size _ _ _ ca ga oa a rfl rfl (Row.made _ w (Nat.le_refl _)) (by omega) a0 (by simp) HCA.out ?_; intro g2 cap2 w2 R2 hb2; have E2 := E0.below hb2 (Nat.le_refl _)) | (at_builtin; refine append_list rfl (.tmp 7) (.tmp 8) rfl w.heap.size _ _ _ cb gb ob a b rfl rfl R2 (by omega) (by omega) b0 E2.size (fun i hi => (E2.cell hgb).trans (HCB.out i hi)) ?_; intro g3 cap3 w3 R3 hb3))
      have E3 := E2.below hb3 (Nat.le_refl _)
      clear hb2 hb3
      go_wp2
      go_ret
      exact ⟨some ⟨g3, 0, none⟩, cap3, by rw [List.length_append]; rfl, R3, E3⟩
    · have hb0 : b = [] := List.length_eq_zero_iff.1 (by omega)
      subst hb0
      subst hnb
      go_enter Try.func80, Try.ntmps80
      go_wp2_with (first | (at_builtin; refine append_all rfl (.tmp 5) (.tmp 6) rfl w.heap.size _ _ _ ca ga oa a rfl rfl (Row.made _ w (Nat.le_refl _)) (by omega) a0 (by simp) HCA.out ?_; intro g2 cap2 w2 R2 hb2; have E2 := E0.below hb2 (Nat.le_refl _)) | (at_builtin; refine append_none rfl (.tmp 7) (.tmp 8) rfl _ _ sb a.length cap2 cb rfl rfl R2.cap ?_))
      clear hb2
      go_wp2
      go_ret
      exact ⟨some ⟨g2, 0, none⟩, cap2, by rw [List.append_nil]; rfl, by rw [List.append_nil]; exact R2, E2⟩
  · have ha0 : a = [] := List.length_eq_zero_iff.1 (by omega)
    subst ha0
    subst hna
    by_cases b0 : 0 < b.length
    · obtain ⟨gb, ob, rfl, hgb, hcb⟩ := hb.cells b0
      have HCB := hide hcb
      subst hnb
      clear hcb hb
      go_enter Try.func80, Try.ntmps80
      go_wp2_with (first | (at_builtin; refine append_none rfl (.tmp 5) (.tmp 6) rfl _ _ sa 0 0 ca rfl rfl (Nat.le_refl _) ?_) | (at_builtin; refine append_list rfl (.tmp 7) (.tmp 8) rfl w.heap.size _ (some ⟨w.heap.size, 0, none⟩) 0 cb gb ob [] b rfl rfl (Row.made _ w (Nat.le_refl _)) (by simp) (by omega) b0 E0.size (fun i hi => (E0.cell hgb).trans (HCB.out i hi)) ?_; intro g3 cap3 w3 R3 hb3))
      have E3 := E0.below hb3 (Nat.le_refl _)
      clear hb3
      go_wp2
      go_ret
      exact ⟨some ⟨g3, 0, none⟩, cap3, by simp, R3, E3⟩
    · have hb0 : b = [] := List.length_eq_zero_iff.1 (by omega)
      subst hb0
      subst hnb
      go_enter Try.func80, Try.ntmps80
      go_wp2_with (first | (at_builtin; refine append_none rfl (.tmp 5) (.tmp 6) rfl _ _ sa 0 0 ca rfl rfl (Nat.le_refl _) ?_) | (at_builtin; refine append_none rfl (.tmp 7) (.tmp 8) rfl _ _ sb 0 0 cb rfl rfl (Nat.le_refl _) ?_))
      go_wp2
      go_ret
      exact ⟨some ⟨w.heap.size, 0, none⟩, 0, rfl, Row.made _ w (Nat.le_refl _), E0⟩
end Go.Proofs.Ytjdfdikifiljjab
