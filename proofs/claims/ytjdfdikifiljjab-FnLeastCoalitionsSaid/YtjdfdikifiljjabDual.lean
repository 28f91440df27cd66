/- Chapter 2: the dual body: contracts. -/
import Derived.Test.YtjdfdikifiljjabBody1
import Derived.Test.YtjdfdikifiljjabBodyX
import Derived.Test.YtjdfdikifiljjabApp
namespace Go.Proofs.Ytjdfdikifiljjab
open Go.ChangeShapes Go.WideShapes Go.ChangeAt Go.RowKit Go.Joins Go.Sort
set_option linter.unusedVariables false

/-- the dual of a body -/
def dualL (l : List Int) (need : Int) : List Int := if vb l need = true then l else []
def dualN (l : List Int) (need : Int) : Int := if vb l need = true then tot l - need + 1 else 0
theorem dual_yes {l : List Int} {need : Int} (h : vb l need = true) : dualL l need = l ∧ dualN l need = tot l - need + 1 := ⟨if_pos h, if_pos h⟩
theorem dual_no {l : List Int} {need : Int} (h : ¬ vb l need = true) : dualL l need = [] ∧ dualN l need = 0 := ⟨if_neg h, if_neg h⟩
theorem dualL_len (l : List Int) (need : Int) : (dualL l need).length ≤ l.length := by unfold dualL; split <;> simp
theorem RetBody.of {l l' : List Int} {n n' : Int} {w w' : World} {sa : Option Addr} {cap base : Nat} (hl : l = l') (hn : n = n') (hr : Row base w' sa cap l') (hb : w.heap.size ≤ base) (e : Ext w w') :
    RetBody l n w (.returned (.agg #[.slice sa l'.length cap, .int .i64 n'])) w' := by
  subst hl; subst hn; exact ⟨sa, cap, rfl, hr.le hb, e⟩

set_option maxHeartbeats 1000000 in
theorem implDual (sa : Option Addr) (cap : Nat) (l : List Int) (need : Int) (w : World) (h : Lst w sa l) (hl : l.length ≤ 2000000) :
    Calls Try.prog 48 #[.agg #[.slice sa l.length cap, .int .i64 need]] w (RetBody (dualL l need) (dualN l need) w) := by
  have H := hide (h.ext (((Ext.refl w).alloc (.cells #[.slice sa l.length cap, .int .i64 need] 28)).alloc (.cells #[.slice none 0 0, .int .i64 0] 28)))
  have X0 := (Box.new w #[.slice sa l.length cap, .int .i64 need] 28).push (.cells #[.slice none 0 0, .int .i64 0] 28)
  have Y0 := Box.newAt (w.alloc (.cells #[.slice sa l.length cap, .int .i64 need] 28)) (w.heap.size + 1) #[.slice none 0 0, .int .i64 0] 28 (by simp)
  clear h
  by_cases hv : vb l need = true
  · obtain ⟨d1, d2⟩ := dual_yes hv
    have D1 := hide d1; clear d1
    have D2 := hide d2; clear d2
    obtain ⟨v1, v3, v4, _, _⟩ := vb_iff.1 hv
    have HX := hide v4; clear v4
    go_enter Try.func48, Try.ntmps48
    go_wp2_with fail; refine (Ret.eqB (implValidBody _ _ l need _ H.out hl) hv).mono ?_; rintro e w1 ⟨rfl, E1⟩
    obtain ⟨c0, c1, _, _⟩ := (X0.keep E1).two
    have z0 := (X0.keep E1).lt
    have z1 := (Y0.keep E1).lt
    have hmk := run_makeInts l.length hl
    go_wp2_with ((refine copy_all (d := .tmp 12) (s := .tmp 14) rfl rfl rfl rfl (H.out.ext E1) ?_; intro w2 A2 E2))
    clear c0 c1 hmk
    have E12 := E1.trans E2
    obtain ⟨_, c1, _, _⟩ := (X0.keep E12).two
    obtain ⟨b0, b1, b2, b3⟩ := (Y0.keep E12).two
    have hbt := tot_bd l 100 HX.out
    have hw1 : IntKind.i64.wrap (tot l - need) = tot l - need := IntWalk.i64_in _ (by omega)
    have hw2 : IntKind.i64.wrap (tot l - need + 1) = tot l - need + 1 := IntWalk.i64_in _ (by omega)
    simp only [Act.put, List.setIfInBounds_toArray, List.set_cons_zero, List.set_cons_succ]
    go_region_held3 (fun w' => w'.cell? ⟨w.heap.size, 1, none⟩ = some (.int .i64 need)) (go_keep)
      (first | (go_at_call 75; refine (implSum (some ⟨w1.heap.size, 0, none⟩) l.length l _ (A2.lst.ext (Ext.refl _).drew) hl (fun x hx => ⟨(HX.out x hx).1, by have := (HX.out x hx).2; omega⟩)).mono ?_; rintro e w' ⟨rfl, rfl⟩))
    clear hw1 hw2
    go_wp2
    have R2 := (A2.row (Nat.le_refl _) hl).put z1 0 (.slice (some ⟨w1.heap.size, 0, none⟩) l.length l.length) |>.put z1 1 (.int .i64 (tot l - need + 1)) |>.ext (Ext.refl _).drew
    have EE := (((((((Ext.refl w).alloc _).alloc _).trans E12).setCell (k := w.heap.size + 1) (o := 0) (by omega) (.slice (some ⟨w1.heap.size, 0, none⟩) l.length l.length)).setCell (k := w.heap.size + 1) (o := 1) (by omega) (.int .i64 (tot l - need + 1))).drew)
    refine bodyPost_ret (v := .agg #[.slice (some ⟨w1.heap.size, 0, none⟩) l.length l.length, .int .i64 (tot l - need + 1)]) (by simp [results, Try.results48, go_sem, b0, b1]) rfl ?_
    exact RetBody.of D1.out D2.out R2 (by omega) EE
  · obtain ⟨d1, d2⟩ := dual_no hv
    have D1 := hide d1; clear d1
    have D2 := hide d2; clear d2
    rw [Bool.not_eq_true] at hv
    go_enter Try.func48, Try.ntmps48
    go_wp2_with fail; refine (Ret.eqB (implValidBody _ _ l need _ H.out hl) hv).mono ?_; rintro e w1 ⟨rfl, E1⟩
    obtain ⟨b0, b1, b2, b3⟩ := (Y0.keep E1).two
    go_wp2
    refine bodyPost_ret (v := .agg #[.slice none 0 0, .int .i64 0]) (by simp [results, Try.results48, go_sem, b0, b1]) rfl ?_
    exact RetBody.of (l' := []) D1.out D2.out (Row.nil _ _) (Nat.le_refl _) (((((Ext.refl w).alloc _).alloc _).trans E1).setCell (by omega) _ |>.setCell (by omega) _)

/-- a box, and a result's cell behind it that is written -/
theorem res_held {w1 w' : World} {k : Nat} {a b : Value} {T : TypeId} (X : Box w1 k #[a, b] T) (M : Mid (k + 1) (k + 2) w1 w') : w'.cell? ⟨k, 0, none⟩ = some a ∧ w'.cell? ⟨k, 1, none⟩ = some b ∧ Mid (k + 1) (k + 2) w1 w' := by
  have X' : Box w' k #[a, b] T := (M.block k X.lt (.inl (by omega))).trans X
  exact ⟨X'.two.1, X'.two.2.1, M⟩
theorem res_mid {w1 w' : World} {k : Nat} {a b : Value} (h : w'.cell? ⟨k, 0, none⟩ = some a ∧ w'.cell? ⟨k, 1, none⟩ = some b ∧ Mid (k + 1) (k + 2) w1 w') : Mid (k + 1) (k + 2) w1 w' := h.2.2

end Go.Proofs.Ytjdfdikifiljjab
