/- Chapter 2: who wins: contracts. -/
import Derived.Test.YtgmhodmgbhpdaacSets
namespace Go.Proofs.Ytgmhodmgbhpdaac
open Go.ChangeShapes Go.WideShapes Go.ChangeAt Go.RowKit Go.Joins Go.Sort
set_option linter.unusedVariables false

theorem Lst.take {w : World} {sa : Option Addr} {l : List Int} (h : Lst w sa l) (k : Nat) : Lst w sa (l.take k) := by
  rcases h with h | ⟨g, off, h1, h2, h3⟩
  · subst h; left; simp
  · refine .inr ⟨g, off, h1, h2, fun i hi => ?_⟩
    rw [List.length_take] at hi
    rw [getD_take l k i (by omega)]; exact h3 i (by omega)

/-- the first place of a number -/
def plc (l : List Int) (x : Int) : Int := if x ∈ l then (l.idxOf x : Int) else -1
theorem plc_in {l : List Int} {x : Int} (h : x ∈ l) : 0 ≤ plc l x := by unfold plc; rw [if_pos h]; omega
theorem plc_out {l : List Int} {x : Int} (h : x ∉ l) : plc l x = -1 := if_neg h
theorem plc_at {l : List Int} {k : Nat} (hk : k < l.length) (h : l.getD k 0 ∉ l.take k) : plc l (l.getD k 0) = k := by
  have hm : l.getD k 0 ∈ l := getD_mem hk
  unfold plc
  rw [if_pos hm]
  have e : l = l.take k ++ l.drop k := (List.take_append_drop k l).symm
  have e2 : l.drop k = l.getD k 0 :: l.drop (k + 1) := by
    rw [List.drop_eq_getElem_cons hk, List.getD_eq_getElem?_getD, List.getElem?_eq_getElem hk]; rfl
  have h3 : ∀ x, x = l.getD k 0 → l.idxOf x = k := by
    intro x hx
    rw [← hx] at h e2
    conv => lhs; rw [e]
    rw [List.idxOf_append, if_neg h, e2, List.idxOf_cons_self, List.length_take]; omega
  rw [h3 _ rfl]
set_option maxHeartbeats 400000 in
theorem specPlaceIn (sa : Option Addr) (cap n : Nat) (l : List Int) (x : Int) (w : World) (h : Lst w sa l) (hn : l.length = n) (hl : n ≤ 2000000) :
    Calls Try.prog 91 #[.slice sa n cap, .int .i64 x] w (Same (.int .i64 (plc l x)) w) := by
  subst hn
  have H := hide h; clear h
  go_enter Try.func91, Try.ntmps91
  go_wp2
  go_loop [5] (fun i => ∃ c : Nat, c ≤ l.length ∧ i = .int .i64 c ∧ Hid (x ∉ l.take c)) (fun i => l.length - (intOf i).toNat)
  case atStart => exact ⟨0, Nat.zero_le _, rfl, show _ ∉ _ by simp⟩
  case round =>
    obtain ⟨c, hc, rfl, HN⟩ := hrel
    by_cases hlt : c < l.length
    · obtain ⟨g, off, rfl, hg, c1⟩ := H.out.at hlt
      by_cases he : l.getD c 0 = x
      · have HF := hide (show (c : Int) = plc l x by
          have := HN.out; rw [← he] at this ⊢; exact (plc_at hlt this).symm)
        rw [he] at c1
        clear he
        go_wp2
        go_ret
        exact Same.int HF.out
      · have HN2 := hide (show x ∉ l.take (c + 1) by
          rw [take_snoc l c hlt, List.mem_append, List.mem_singleton]
          rintro (h | h)
          · exact HN.out h
          · exact he h.symm)
        obtain ⟨y, hy⟩ : ∃ y, y = l.getD c 0 := ⟨_, rfl⟩; rw [← hy] at c1 he
        have hd : ((y : Int) == x) = false := by rw [beq_eq_false_iff_ne]; exact he
        clear hy he
        go_wp2
        go_round
        case rel => exact ⟨c + 1, by omega, by go_num, HN2⟩
        case measure => simp [intOf]; omega
    · have HF := hide (show (-1 : Int) = plc l x by
        have := HN.out; rw [List.take_of_length_le (by omega)] at this; exact (plc_out this).symm)
      go_wp2
      go_ret
      exact Same.int HF.out
set_option maxHeartbeats 1000000 in
theorem specVM (sa : Option Addr) (cap : Nat) (l : List Int) (n : Nat) (w : World) (h : Lst w sa l) (hl : l.length ≤ 2000000) (hcap : l.length ≤ cap) (hn : n ≤ 2000000) :
    Calls Try.prog 61 #[.slice sa l.length cap, .int .i64 n] w (Ret (.bool (vmB l n)) w) := by
  have H := hide h; clear h
  go_enter Try.func61, Try.ntmps61
  go_wp2
  go_loopw [5] (fun i wr => ∃ c : Nat, c ≤ l.length ∧ i = .int .i64 c ∧ Hid (vmB (l.take c) n = true) ∧ Ext w wr) (fun i _ => l.length - (intOf i).toNat)
  case atStart => exact ⟨0, Nat.zero_le _, rfl, vmB_iff.2 (by simp), Ext.refl _⟩
  case round =>
    obtain ⟨c, hc, rfl, HV, hE⟩ := hrel
    by_cases hlt : c < l.length
    · have HL := hide (H.out.ext hE)
      obtain ⟨g, off, rfl, hg, c1⟩ := HL.out.at hlt
      obtain ⟨x, hx⟩ : ∃ x, x = l.getD c 0 := ⟨_, rfl⟩; rw [← hx] at c1
      have HX := hide hx; clear hx
      have r1 := cell_regrown c1
      have hccap : c ≤ cap := by omega
      by_cases hin : inr x 0 ((n : Int) - 1) = true
      · by_cases hmem : l.getD c 0 ∈ l.take c
        · have hd : decide ((0 : Int) ≤ plc (l.take c) x) = true := decide_eq_true (by rw [HX.out]; exact plc_in hmem)
          have HF := hide (vm_twice hlt hmem : vmB l n = false)
          clear hmem
          go_wp2
          refine wp_region_quiet_below (by kernel_rfl) (by kernel_rfl) ?_
          repeat (go_big_quiet_step ((first | (go_at_call 89; exact Same.quiet (Same.eqB (specInr _ _ _ _) hin)) | (go_at_call 91; exact Same.quiet (specPlaceIn _ _ _ (l.take c) x _ ((HL.out.take c).ext (below_regrown _ _ _)) (by simp; omega) (by omega))))))
          refine wpQuiet_nil ?_; intro w9 hq; have E9 := Ext.class hq; clear hq
          go_wp2
          go_ret
          exact Ret.bool (by rw [HF.out]) (hE.trans E9)
        · have hd : decide ((0 : Int) ≤ plc (l.take c) x) = false := decide_eq_false (by rw [HX.out, plc_out hmem]; omega)
          have hi := inr_iff.1 hin
          have HV2 := hide (vm_step hlt HV.out (by rw [← HX.out]; exact hi.1) (by rw [← HX.out]; exact hi.2) hmem)
          clear hmem hi
          go_wp2
          refine wp_region_quiet_below (by kernel_rfl) (by kernel_rfl) ?_
          repeat (go_big_quiet_step ((first | (go_at_call 89; exact Same.quiet (Same.eqB (specInr _ _ _ _) hin)) | (go_at_call 91; exact Same.quiet (specPlaceIn _ _ _ (l.take c) x _ ((HL.out.take c).ext (below_regrown _ _ _)) (by simp; omega) (by omega))))))
          refine wpQuiet_nil ?_; intro w9 hq; have E9 := Ext.class hq; clear hq
          go_wp2
          go_roundw
          case rel => exact ⟨c + 1, by omega, by go_num, HV2, hE.trans E9⟩
          case measure => simp [intOf]; omega
      · have HF := hide (vm_out (n := n) hlt fun h => hin (inr_iff.2 (by rw [HX.out]; exact h)))
        rw [Bool.not_eq_true] at hin
        go_wp2
        refine wp_region_quiet_below (by kernel_rfl) (by kernel_rfl) ?_
        repeat (go_big_quiet_step ((first | (go_at_call 89; exact Same.quiet (Same.eqB (specInr _ _ _ _) hin)))))
        refine wpQuiet_nil ?_; intro w9 hq; have E9 := Ext.class hq; clear hq
        go_wp2
        go_ret
        exact Ret.bool (by rw [HF.out]) (hE.trans E9)
    · have HF := hide (show l.take c = l from List.take_of_length_le (by omega))
      go_wp2
      go_ret
      exact Ret.bool (by have := HV.out; rw [HF.out] at this; rw [this]) hE
def winB (l : List Int) (need : Int) (s : Nat) : Bool := decide (need ≤ wt l s)
/-- different members of a valid body who win -/
def winsB (l : List Int) (need : Int) (m : List Int) : Bool := vb l need && (vmB m l.length && winB l need (setN m))
end Go.Proofs.Ytgmhodmgbhpdaac
