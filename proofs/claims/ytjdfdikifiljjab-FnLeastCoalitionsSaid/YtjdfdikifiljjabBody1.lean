/- Chapter 2: sums, valid bodies. -/
import Derived.Test.YtjdfdikifiljjabExt
namespace Go.Proofs.Ytjdfdikifiljjab
open Go.ChangeShapes Go.WideShapes Go.ChangeAt Go.RowKit Go.Joins Go.Sort
set_option linter.unusedVariables false

def tot (l : List Int) : Int := l.foldr (· + ·) 0
theorem tot_nil : tot [] = 0 := rfl
theorem tot_cons (a : Int) (l : List Int) : tot (a :: l) = a + tot l := rfl
theorem tot_append (a b : List Int) : tot (a ++ b) = tot a + tot b := by
  induction a with
  | nil => simp [tot_nil]
  | cons x t ih => simp only [List.cons_append, tot_cons, ih]; omega
theorem take_getD (l : List Int) (k : Nat) (h : k < l.length) : l.take (k + 1) = l.take k ++ [l.getD k 0] := by
  rw [List.take_succ_eq_append_getElem h, List.getD_eq_getElem?_getD, List.getElem?_eq_getElem h]; rfl
theorem tot_take (l : List Int) (k : Nat) (h : k < l.length) : tot (l.take (k + 1)) = tot (l.take k) + l.getD k 0 := by
  rw [take_getD l k h, tot_append]; simp [tot]
theorem getD_mem {l : List Int} {k : Nat} (h : k < l.length) : l.getD k 0 ∈ l := by
  rw [List.getD_eq_getElem?_getD, List.getElem?_eq_getElem h]; exact List.getElem_mem _
theorem tot_bd (l : List Int) (m : Int) (h : ∀ x ∈ l, 0 ≤ x ∧ x ≤ m) : 0 ≤ tot l ∧ tot l ≤ m * l.length := by
  induction l with
  | nil => simp [tot_nil]
  | cons a t ih =>
    have h1 := h a (List.mem_cons_self ..)
    have h2 := ih fun x hx => h x (List.mem_cons_of_mem _ hx)
    rw [tot_cons, List.length_cons, Int.natCast_add, Int.mul_add]; omega
theorem tot_bd2 (l : List Int) (h : ∀ x ∈ l, 0 ≤ x ∧ x ≤ 1000000) (hl : l.length ≤ 2000000) : 0 ≤ tot l ∧ tot l ≤ 2000000000000 := by
  have := tot_bd l 1000000 h; omega
theorem mem_take {l : List Int} {k : Nat} {x : Int} (h : x ∈ l.take k) : x ∈ l := List.mem_of_mem_take h

set_option maxHeartbeats 400000 in
theorem implSum (sa : Option Addr) (cap : Nat) (l : List Int) (w : World) (h : Lst w sa l) (hl : l.length ≤ 2000000) (hx : ∀ x ∈ l, 0 ≤ x ∧ x ≤ 1000000) :
    Calls Try.prog 75 #[.slice sa l.length cap] w (Same (.int .i64 (tot l)) w) := by
  have H := hide h
  have HX := hide hx
  clear h hx
  go_enter Try.func75, Try.ntmps75
  go_wp2
  go_loop [3, 8] (fun s i => ∃ k : Nat, k ≤ l.length ∧ i = .int .i64 k ∧ s = .int .i64 (tot (l.take k))) (fun _ i => l.length - (intOf i).toNat)
  case atStart => exact ⟨0, Nat.zero_le _, rfl, rfl⟩
  case round =>
    obtain ⟨k, hk, rfl, rfl⟩ := hrel
    have hb := tot_bd2 (l.take k) (fun x hx => HX.out x (mem_take hx)) (by simp; omega)
    by_cases hlt : k < l.length
    · obtain ⟨g, off, rfl, hg, c1⟩ := H.out.at hlt
      have hc := HX.out _ (getD_mem hlt)
      have HS := hide (tot_take l k hlt)
      obtain ⟨x, hx⟩ : ∃ x, x = l.getD k 0 := ⟨_, rfl⟩
      rw [← hx] at c1 hc HS
      clear hx
      obtain ⟨s, hs⟩ : ∃ s, s = tot (l.take k) := ⟨_, rfl⟩
      rw [← hs] at hb HS ⊢
      clear hs
      go_wp2
      go_round
      case rel => exact ⟨k + 1, by omega, by go_num, by rw [HS.out]⟩
      case measure => simp [intOf]; omega
    · have HF := hide (show l.take k = l from List.take_of_length_le (by omega))
      go_wp2
      go_ret
      exact Same.int (by rw [HF.out])

/-- a body is valid -/
def vb (l : List Int) (need : Int) : Bool := decide (1 ≤ l.length ∧ l.length ≤ 12 ∧ (∀ x ∈ l, 0 ≤ x ∧ x ≤ 100) ∧ 1 ≤ need ∧ need ≤ tot l)
theorem vb_iff {l : List Int} {need : Int} : vb l need = true ↔ 1 ≤ l.length ∧ l.length ≤ 12 ∧ (∀ x ∈ l, 0 ≤ x ∧ x ≤ 100) ∧ 1 ≤ need ∧ need ≤ tot l := by unfold vb; simp only [decide_eq_true_eq]
theorem vb_no {l : List Int} {need : Int} (h : ¬ (1 ≤ l.length ∧ l.length ≤ 12 ∧ (∀ x ∈ l, 0 ≤ x ∧ x ≤ 100) ∧ 1 ≤ need ∧ need ≤ tot l)) : vb l need = false := decide_eq_false h
theorem all_succ {l : List Int} {k : Nat} {p : Int → Prop} (h : ∀ x ∈ l.take k, p x) (hk : k < l.length) (hp : p (l.getD k 0)) : ∀ x ∈ l.take (k + 1), p x := by
  intro x hx
  rw [take_getD l k hk, List.mem_append, List.mem_singleton] at hx
  rcases hx with hx | rfl
  · exact h x hx
  · exact hp

set_option maxHeartbeats 1000000 in
theorem implValidBody (sa : Option Addr) (cap : Nat) (l : List Int) (need : Int) (w : World) (h : Lst w sa l) (hl : l.length ≤ 2000000) :
    Calls Try.prog 44 #[.agg #[.slice sa l.length cap, .int .i64 need]] w (Ret (.bool (vb l need)) w) := by
  by_cases hlen : inr l.length 1 12 = true
  · have hr := inr_iff.1 hlen
    have H := hide h
    clear h
    go_enter Try.func44, Try.ntmps44
    go_wp2_with fail
    refine (implInr _ _ _ _).mono ?_
    rintro e w' ⟨rfl, rfl⟩
    go_wp2
    go_loop [13] (fun i => ∃ k : Nat, k ≤ l.length ∧ i = .int .i64 k ∧ ∀ x ∈ l.take k, 0 ≤ x ∧ x ≤ 100) (fun i => l.length - (intOf i).toNat)
    case atStart => exact ⟨0, Nat.zero_le _, rfl, by simp⟩
    case round =>
      obtain ⟨k, hk, rfl, ht⟩ := hrel
      have HT := hide ht
      clear ht
      by_cases hlt : k < l.length
      · obtain ⟨g, off, rfl, hg, c1⟩ := H.out.at hlt
        obtain ⟨x, hx⟩ : ∃ x, x = l.getD k 0 := ⟨_, rfl⟩
        rw [← hx] at c1
        have HX := hide hx
        clear hx
        by_cases hin : inr x 0 100 = true
        · go_wp2_with fail
          refine (implInr _ _ _ _).mono ?_
          rintro e w' ⟨rfl, rfl⟩
          go_wp2
          go_round
          case rel => exact ⟨k + 1, by omega, by go_num, all_succ HT.out hlt (by rw [← HX.out]; exact inr_iff.1 hin)⟩
          case measure => simp [intOf]; omega
        · have HF := hide (vb_no fun h => hin (inr_iff.2 (by rw [HX.out]; exact h.2.2.1 _ (getD_mem hlt))) : vb l need = false)
          rw [Bool.not_eq_true] at hin
          go_wp2_with fail
          refine (implInr _ _ _ _).mono ?_
          rintro e w' ⟨rfl, rfl⟩
          go_wp2
          go_ret
          exact Ret.bool (by rw [HF.out]) ((Ext.refl _).alloc _)
      · have HA := hide (show ∀ x ∈ l, 0 ≤ x ∧ x ≤ 100 by
          have := HT.out; rwa [List.take_of_length_le (by omega)] at this)
        have HF := hide (show inr need 1 (tot l) = vb l need by
          unfold inr vb; congr 1; rw [eq_iff_iff]; exact ⟨fun h => ⟨by omega, by omega, HA.out, h⟩, fun h => h.2.2.2⟩)
        have HL := hide (H.out.ext ((Ext.refl w).alloc (.cells #[.slice sa l.length cap, .int .i64 need] 28)))
        obtain ⟨r0, r1⟩ := (Box.new w #[.slice sa l.length cap, .int .i64 need] 28).reads (Ext.refl _)
        go_wp2
        refine wp_region_quiet_below (by kernel_rfl) (by kernel_rfl) ?_
        repeat (go_big_quiet_step ((first | (go_at_call 75; exact Same.quiet (implSum _ _ _ _ (HL.out.ext (below_regrown _ _ _)) (by omega) (fun x hx => ⟨(HA.out x hx).1, by have := (HA.out x hx).2; omega⟩))) | (go_at_call 85; exact Same.quiet (implInr _ _ _ _)))))
        refine wpQuiet_nil ?_
        intro w9 hq
        have E9 := ((Ext.refl w).alloc (.cells #[.slice sa l.length cap, .int .i64 need] 28)).trans (Ext.class hq)
        clear hq
        go_wp2
        go_ret
        exact Ret.bool HF.out E9
  · have HF := hide (vb_no fun h => hlen (inr_iff.2 ⟨by omega, by omega⟩) : vb l need = false)
    rw [Bool.not_eq_true] at hlen
    go_enter Try.func44, Try.ntmps44
    go_wp2_with fail; refine (implInr _ _ _ _).mono ?_; rintro e w' ⟨rfl, rfl⟩
    go_wp2
    go_ret
    exact Ret.bool (by rw [HF.out]) ((Ext.refl _).alloc _)

def alli (l : List Int) (lo hi : Int) : Bool := decide (∀ x ∈ l, lo ≤ x ∧ x ≤ hi)
theorem alli_iff {l : List Int} {lo hi : Int} : alli l lo hi = true ↔ ∀ x ∈ l, lo ≤ x ∧ x ≤ hi := by unfold alli; simp
theorem alli_no {l : List Int} {lo hi : Int} (h : ¬ ∀ x ∈ l, lo ≤ x ∧ x ≤ hi) : alli l lo hi = false := decide_eq_false h
set_option maxHeartbeats 1000000 in
theorem specAllIn (sa : Option Addr) (cap n : Nat) (l : List Int) (lo hi : Int) (w : World) (h : Lst w sa l) (hn : l.length = n) (hl : n ≤ 2000000) :
    Calls Try.prog 101 #[.slice sa n cap, .int .i64 lo, .int .i64 hi] w (Same (.bool (alli l lo hi)) w) := by
  subst hn
  have H := hide h; clear h
  go_enter Try.func101, Try.ntmps101
  go_wp2
  go_loop [7] (fun i => ∃ k : Nat, k ≤ l.length ∧ i = .int .i64 k ∧ ∀ x ∈ l.take k, lo ≤ x ∧ x ≤ hi) (fun i => l.length - (intOf i).toNat)
  case atStart => exact ⟨0, Nat.zero_le _, rfl, by simp⟩
  case round =>
    obtain ⟨k, hk, rfl, ht⟩ := hrel
    have HT := hide ht; clear ht
    by_cases hlt : k < l.length
    · obtain ⟨g, off, rfl, hg, c1⟩ := H.out.at hlt
      obtain ⟨x, hx⟩ : ∃ x, x = l.getD k 0 := ⟨_, rfl⟩; rw [← hx] at c1
      have HX := hide hx; clear hx
      by_cases hin : inr x lo hi = true
      · go_wp2_with fail; refine (specInr _ _ _ _).mono ?_; rintro e w' ⟨rfl, rfl⟩
        go_wp2
        go_round
        case rel => exact ⟨k + 1, by omega, by go_num, all_succ HT.out hlt (by rw [← HX.out]; exact inr_iff.1 hin)⟩
        case measure => simp [intOf]; omega
      · have HF := hide (alli_no fun h => hin (inr_iff.2 (by rw [HX.out]; exact h _ (getD_mem hlt))) : alli l lo hi = false)
        rw [Bool.not_eq_true] at hin
        go_wp2_with fail; refine (specInr _ _ _ _).mono ?_; rintro e w' ⟨rfl, rfl⟩
        go_wp2
        go_ret
        exact Same.bool (by rw [HF.out])
    · have HF := hide (show alli l lo hi = true from alli_iff.2 (by have := HT.out; rwa [List.take_of_length_le (by omega)] at this))
      go_wp2
      go_ret
      exact Same.bool (by rw [HF.out])
set_option maxHeartbeats 400000 in
theorem specTotal (sa : Option Addr) (cap n : Nat) (l : List Int) (w : World) (h : Lst w sa l) (hn : l.length = n) (hl : n ≤ 2000000) (hx : ∀ x ∈ l, 0 ≤ x ∧ x ≤ 1000000) :
    Calls Try.prog 74 #[.slice sa n cap] w (Same (.int .i64 (tot l)) w) := by
  subst hn
  have H := hide h; clear h
  have HX := hide hx; clear hx
  go_enter Try.func74, Try.ntmps74
  go_wp2
  go_loop [3, 4] (fun s i => ∃ k : Nat, k ≤ l.length ∧ i = .int .i64 k ∧ s = .int .i64 (tot (l.take k))) (fun _ i => l.length - (intOf i).toNat)
  case atStart => exact ⟨0, Nat.zero_le _, rfl, rfl⟩
  case round =>
    obtain ⟨k, hk, rfl, rfl⟩ := hrel
    have hb := tot_bd2 (l.take k) (fun x hx => HX.out x (mem_take hx)) (by simp; omega)
    by_cases hlt : k < l.length
    · obtain ⟨g, off, rfl, hg, c1⟩ := H.out.at hlt
      have hc := HX.out _ (getD_mem hlt)
      have HS := hide (tot_take l k hlt)
      obtain ⟨x, hx⟩ : ∃ x, x = l.getD k 0 := ⟨_, rfl⟩; rw [← hx] at c1 hc HS
      clear hx
      obtain ⟨s, hs⟩ : ∃ s, s = tot (l.take k) := ⟨_, rfl⟩; rw [← hs] at hb HS ⊢
      clear hs
      go_wp2
      go_round
      case rel => exact ⟨k + 1, by omega, by go_num, by rw [HS.out]⟩
      case measure => simp [intOf]; omega
    · have HF := hide (show l.take k = l from List.take_of_length_le (by omega))
      go_wp2
      go_ret
      exact Same.int (by rw [HF.out])
set_option maxHeartbeats 400000 in
theorem lawTotal (sa : Option Addr) (cap n : Nat) (l : List Int) (w : World) (h : Lst w sa l) (hn : l.length = n) (hl : n ≤ 2000000) (hx : ∀ x ∈ l, 0 ≤ x ∧ x ≤ 1000000) :
    Calls Try.prog 53 #[.slice sa n cap] w (Same (.int .i64 (tot l)) w) := by
  subst hn
  have H := hide h; clear h
  have HX := hide hx; clear hx
  go_enter Try.func53, Try.ntmps53
  go_wp2
  go_loop [3, 4] (fun s i => ∃ k : Nat, k ≤ l.length ∧ i = .int .i64 k ∧ s = .int .i64 (tot (l.take k))) (fun _ i => l.length - (intOf i).toNat)
  case atStart => exact ⟨0, Nat.zero_le _, rfl, rfl⟩
  case round =>
    obtain ⟨k, hk, rfl, rfl⟩ := hrel
    have hb := tot_bd2 (l.take k) (fun x hx => HX.out x (mem_take hx)) (by simp; omega)
    by_cases hlt : k < l.length
    · obtain ⟨g, off, rfl, hg, c1⟩ := H.out.at hlt
      have hc := HX.out _ (getD_mem hlt)
      have HS := hide (tot_take l k hlt)
      obtain ⟨x, hx⟩ : ∃ x, x = l.getD k 0 := ⟨_, rfl⟩; rw [← hx] at c1 hc HS
      clear hx
      obtain ⟨s, hs⟩ : ∃ s, s = tot (l.take k) := ⟨_, rfl⟩; rw [← hs] at hb HS ⊢
      clear hs
      go_wp2
      go_round
      case rel => exact ⟨k + 1, by omega, by go_num, by rw [HS.out]⟩
      case measure => simp [intOf]; omega
    · have HF := hide (show l.take k = l from List.take_of_length_le (by omega))
      go_wp2
      go_ret
      exact Same.int (by rw [HF.out])
theorem Same.eqB {P : Program} {f : FuncId} {args : Array Value} {w : World} {a b : Bool} (h : Calls P f args w (Same (.bool a) w)) (e : a = b) : Calls P f args w (Same (.bool b) w) := e ▸ h
theorem Ret.eqB {P : Program} {f : FuncId} {args : Array Value} {w : World} {a b : Bool} (h : Calls P f args w (Ret (.bool a) w)) (e : a = b) : Calls P f args w (Ret (.bool b) w) := e ▸ h

set_option maxHeartbeats 1000000 in
theorem specvBody (sa : Option Addr) (cap : Nat) (l : List Int) (need : Int) (w : World) (h : Lst w sa l) (hl : l.length ≤ 2000000) :
    Calls Try.prog 73 #[.agg #[.slice sa l.length cap, .int .i64 need]] w (Ret (.bool (vb l need)) w) := by
  have HL := hide (h.ext ((Ext.refl w).alloc (.cells #[.slice sa l.length cap, .int .i64 need] 28)))
  clear h
  obtain ⟨r0, r1⟩ := (Box.new w #[.slice sa l.length cap, .int .i64 need] 28).reads (Ext.refl _)
  by_cases hlen : inr l.length 1 12 = true
  · have hr := inr_iff.1 hlen
    by_cases ha : alli l 0 100 = true
    · have HA := hide (alli_iff.1 ha)
      have HF := hide (show inr need 1 (tot l) = vb l need by
        unfold inr vb; congr 1; rw [eq_iff_iff]; exact ⟨fun h => ⟨by omega, by omega, HA.out, h⟩, fun h => h.2.2.2⟩)
      go_enter Try.func73, Try.ntmps73
      go_wp2
      refine wp_region_quiet_below (by kernel_rfl) (by kernel_rfl) ?_
      repeat (go_big_quiet_step ((first | (go_at_call 94; exact Same.quiet (Same.eqB (specInr _ _ _ _) hlen)) | (go_at_call 94; exact Same.quiet (specInr _ _ _ _)) | (go_at_call 101; exact Same.quiet (Same.eqB (specAllIn _ _ _ l _ _ _ (HL.out.ext (below_regrown _ _ _)) rfl hl) ha)) | (go_at_call 74; exact Same.quiet (specTotal _ _ _ l _ (HL.out.ext (below_regrown _ _ _)) rfl hl (fun x hx => ⟨(HA.out x hx).1, by have := (HA.out x hx).2; omega⟩))))))
      refine wpQuiet_nil ?_; intro w9 hq; have E9 := Ext.class hq; clear hq
      go_wp2
      go_ret
      exact Ret.bool HF.out (((Ext.refl w).alloc _).trans E9)
    · have HF := hide (vb_no fun h => ha (alli_iff.2 h.2.2.1) : vb l need = false)
      rw [Bool.not_eq_true] at ha
      go_enter Try.func73, Try.ntmps73
      go_wp2
      refine wp_region_quiet_below (by kernel_rfl) (by kernel_rfl) ?_
      repeat (go_big_quiet_step ((first | (go_at_call 94; exact Same.quiet (Same.eqB (specInr _ _ _ _) hlen)) | (go_at_call 101; exact Same.quiet (Same.eqB (specAllIn _ _ _ l _ _ _ (HL.out.ext (below_regrown _ _ _)) rfl hl) ha)))))
      refine wpQuiet_nil ?_; intro w9 hq; have E9 := Ext.class hq; clear hq
      go_wp2
      go_ret
      exact Ret.bool (by rw [HF.out]) (((Ext.refl w).alloc _).trans E9)
  · have HF := hide (vb_no fun h => hlen (inr_iff.2 ⟨by omega, by omega⟩) : vb l need = false)
    rw [Bool.not_eq_true] at hlen
    go_enter Try.func73, Try.ntmps73
    go_wp2
    refine wp_region_quiet_below (by kernel_rfl) (by kernel_rfl) ?_
    repeat (go_big_quiet_step ((first | (go_at_call 94; exact Same.quiet (Same.eqB (specInr _ _ _ _) hlen)))))
    refine wpQuiet_nil ?_; intro w9 hq; have E9 := Ext.class hq; clear hq
    go_wp2
    go_ret
    exact Ret.bool (by rw [HF.out]) (((Ext.refl w).alloc _).trans E9)
end Go.Proofs.Ytjdfdikifiljjab
