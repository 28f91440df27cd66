/- Chapter 2: the walk of the law of winning, at drawn arguments. -/
import Derived.Test.YtjdfdikifiljjaaLawsV
import Derived.Test.YtjdfdikifiljjaaDrawE
import Derived.Deep.RegionHeld3
namespace Go.Proofs.Ytjdfdikifiljjaa
open Go.ChangeShapes Go.WideShapes Go.ChangeAt Go.RowKit Go.Joins Go.Sort
set_option linter.unusedVariables false

/-- an append of a whole list to an empty list of the call's own, at a step of a drawn region -/
theorem step_append_all {ops : Array Oper} {o : Oper} {a : Act} {K : Act → World → Prop} {Q : Exit → Act → World → Prop} {E : Prop} {s x : Operand} (hgd : o.guard = none)
    (ho : o.op = .call { callee := .builtin .append, args := #[s, x], argTypes := #[22, 22] }) {base : Nat} {w1 : World} {b cap cx g off : Nat} {l : List Int}
    (hs : a.eval s = .slice (some ⟨b, 0, none⟩) 0 cap) (hx : a.eval x = .slice (some ⟨g, off, none⟩) l.length cx) (R : Row base w1 (some ⟨b, 0, none⟩) cap []) (hl : l.length ≤ 2000000) (h0 : 0 < l.length) (hb : base ≤ w1.heap.size)
    (hc : ∀ i, i < l.length → w1.cell? ⟨g, off + i, none⟩ = some (.int .i64 (l.getD i 0)))
    (h : ∀ g cap' w', Row base w' (some ⟨g, 0, none⟩) cap' l → Below base w1 w' → (∀ k, k < w1.heap.size → k ≠ b → w'.heap[k]? = w1.heap[k]?) → K (a.put o.dst (.slice (some ⟨g, 0, none⟩) l.length cap')) w') :
    if Region.wanted o (yielded ops a.tmps) = true then Oper.wp Try.prog o a w1 K Q else E := by
  obtain ⟨i0, hi, hz0, hz1, hz2⟩ := info_parts Try.infoInt
  refine step_append_lies w1 hgd s x 22 ho base 3 i0 (.int .i64 0) 1 8 Try.underlying22 hi hz0 hz1 hz2 rfl (by decide) _ 0 [] hs R.own ⟨g, off, none⟩ l.length cx (l.map (Value.int .i64)) hx (by simp) ?_ ?_ h0 (by unfold maxLen; omega) (by omega) hb _ rfl ?_
  · intro j u hj
    rw [List.getElem?_map] at hj
    by_cases hjl : j < l.length
    · have := hc j hjl
      rw [List.getD_eq_getElem?_getD] at this
      rw [List.getElem?_eq_getElem hjl] at hj this
      simp at hj this
      subst hj
      by_cases hj0 : j = 0
      · subst hj0; simpa [Addr.add] using this
      · simpa [Addr.add, hj0] using this
    · rw [List.getElem?_eq_none (by omega)] at hj; simp at hj
  · intro u hu
    obtain ⟨x, _, rfl⟩ := List.mem_map.1 hu
    rfl
  · intro g2 cap' w2 hown hgrow hat hlt
    rw [Nat.zero_add, List.nil_append] at hown
    rw [Nat.zero_add]
    refine h g2 cap' w2 hown ((Below.refl _ _).grown hgrow hb fun k hk => (World.ownsRow.lt R.own k hk).1) fun k hk hkb => hgrow.block k hk (by simp [Value.ownBlock]; omega)

set_option maxRecDepth 100000 in
set_option maxHeartbeats 1000000 in
theorem walkFnWins (w : World) (sa : Option Addr) (len cap : Nat) (h : Code w sa len cap) (hl : len ≤ maxLen) :
    Calls Try.prog 15 #[.slice sa len cap] w fun e w' => e = .returned (.bool true) ∧ Below w.heap.size w w' := by
  have hl' := hl
  unfold maxLen at hl'
  by_cases hbig : 1048576 < len
  · clear h hl
    go_enter Try.func15, Try.ntmps15
    go_wp2
    go_ret
    exact ⟨rfl, Below.refl _ _⟩
  · go_enter Try.func15, Try.ntmps15
    go_wp2_with fail
    refine (dDrawWins sa len cap w h hl).mono ?_
    rintro e w1 ⟨sb, cb, l, need, sm, cm, m, rfl, hR, l1, l2, hx, n1, n2, hM, hml, E1⟩
    have HL := hide hR.lst
    have X1 := Box.new w1 #[.slice sb l.length cb, .int .i64 need] 27
    have EA := (Ext.refl w1).alloc (.cells #[.slice sb l.length cb, .int .i64 need] 27)
    obtain ⟨c0, c1, _, _⟩ := X1.two
    clear h hl hl' hbig
    have HM := hide hM.lst
    have hmc := hM.cap
    clear hR hM hx
    have CS := hide fun w h1 h2 => specWins sb cb l need sm cm m w h1 (by omega) h2 (by omega) hmc
    by_cases hw : winsB l need m = true
    · have hv := (winsB_iff.1 hw).1
      have HMO := hide fun x hx => wins_more hw (x := x) hx
      have HAl := hide (wins_all hv)
      have h0 : 0 < m.length := by
        cases m with
        | nil => rw [wins_none] at hw; cases hw
        | cons a m => simp
      go_wp2_with fail; refine (Ret.eqB (implWins sb cb l need sm cm m _ (HL.out.ext EA) (by omega) (HM.out.ext EA) (by omega) hmc) hw).mono ?_; rintro e w2 ⟨rfl, E2⟩
      clear c0 c1
      obtain ⟨c0, c1, _, _⟩ := (X1.keep E2).two
      go_wp2_with fail; refine (Ret.eqB (CS.out _ (HL.out.ext (EA.trans E2)) (HM.out.ext (EA.trans E2))) hw).mono ?_; rintro e w3 ⟨rfl, E3⟩
      clear c0 c1 hw hv
      have X3 := X1.keep (E2.trans E3)
      have E13 := EA.trans (E2.trans E3)
      obtain ⟨c0, c1, _, _⟩ := X3.two
      go_wp2_with fail; refine (numbers_any l.length _ (by omega)).mono ?_; rintro e w4 ⟨s4, c4, rfl, R4, hb4⟩
      have E4 := Ext.of hb4
      clear c0 c1
      obtain ⟨c0, c1, _, _⟩ := (X3.keep E4).two
      go_wp2_with fail; refine (others_any sm cm m.length m l.length _ (HM.out.ext (E13.trans E4)) rfl (by omega) (by omega)).mono ?_; rintro e w5 ⟨s5, c5, rfl, R5, hb5⟩
      have E5 := Ext.of hb5
      have X5 := X3.keep (E4.trans E5)
      have E15 := E13.trans (E4.trans E5)
      have HA := hide (R4.lst.ext E5)
      have hac := R4.cap
      have HO := hide R5.lst
      have hnl : (nums l.length).length ≤ 9 := by rw [nums_len]; exact l2
      have hol : (oth m l.length).length ≤ 9 := by have := filK_len (fun i => !decide ((i : Int) ∈ m)) l.length; unfold oth; omega
      obtain ⟨NA, hNA⟩ : ∃ NA, NA = nums l.length := ⟨_, rfl⟩; rw [← hNA] at HA HAl hac hnl ⊢
      obtain ⟨O, hO⟩ : ∃ O, O = oth m l.length := ⟨_, rfl⟩; rw [← hO] at HO HMO hol ⊢
      clear hNA hO hb4 hb5 c0 c1 R4 R5
      go_wp2
      go_loopw [8] (fun i wr => ∃ k : Nat, k ≤ O.length ∧ i = .int .i64 k ∧ Ext w5 wr) (fun i _ => O.length - (intOf i).toNat)
      case atStart => exact ⟨0, Nat.zero_le _, rfl, Ext.refl _⟩
      case round =>
        obtain ⟨k, hk, rfl, hE⟩ := hrel
        have EX := E15.trans hE
        have XR := X5.keep hE
        by_cases hlt : k < O.length
        · obtain ⟨go, oo, rfl, hgo, ex⟩ := (HO.out.ext hE).at hlt
          have hwx := HMO.out _ (getD_mem hlt)
          obtain ⟨x, hx⟩ : ∃ x, x = O.getD k 0 := ⟨_, rfl⟩; rw [← hx] at ex hwx
          clear hx
          obtain ⟨gm, om, rfl, hgm, _⟩ := HM.out.at (k := 0) h0
          have HM2 := hide (HM.out.ext EX)
          have HK := hide (show ∀ w', Ext wr w' → w'.cell? ⟨w1.heap.size, 0, none⟩ = some (.slice sb l.length cb) ∧ w'.cell? ⟨w1.heap.size, 1, none⟩ = some (.int .i64 need) ∧ w'.cell? ⟨go, oo + k, none⟩ = some (.int .i64 x) from fun w' E => ⟨(XR.keep E).two.1, (XR.keep E).two.2.1, (E.cell hgo).trans ex⟩)
          have hki : (k : Int) < (O.length : Int) := by omega
          go_wp2
          refine wp_region_held_drew (S := (fun w' => w'.cell? ⟨w1.heap.size, 0, none⟩ = some (.slice sb l.length cb) ∧ w'.cell? ⟨w1.heap.size, 1, none⟩ = some (.int .i64 need) ∧ w'.cell? ⟨go, oo + k, none⟩ = some (.int .i64 x))) (by kernel_rfl) (by first | exact HK.out _ ((Ext.refl wr).drew)) (fun hHeld => ?_)
          refine wpAnyH_take (i := 0) (oi := _) (v := ?_) rfl (by kernel_rfl) (by kernel_rfl) (by kernel_rfl) (fun _ _ _ h => h) (Or.inl ⟨by rfl, ?_⟩) (by assumption) ?_
          rotate_left
          · (intro w hSw; (try dsimp only at hSw); (try obtain ⟨hS0, hS1, hS2⟩ := hSw); go_simp; (try with_reducible rfl))
          (try simp only [List.getElem_toArray, List.getElem_cons_zero, Act.put, List.setIfInBounds_toArray, List.set_cons_zero, List.set_cons_succ])
          refine wpAnyH_take (i := 2) (oi := _) (v := ?_) rfl (by kernel_rfl) (by kernel_rfl) (by kernel_rfl) (fun _ _ _ h => h) (Or.inl ⟨by rfl, ?_⟩) (by assumption) ?_
          rotate_left
          · (intro w hSw; (try dsimp only at hSw); (try obtain ⟨hS0, hS1, hS2⟩ := hSw); go_simp; (try with_reducible rfl))
          (try simp only [List.getElem_toArray, List.getElem_cons_succ, List.getElem_cons_zero, Act.put, List.setIfInBounds_toArray, List.set_cons_zero, List.set_cons_succ])
          refine wpAnyH_take (i := 4) (oi := _) (v := ?_) rfl (by kernel_rfl) (by kernel_rfl) (by kernel_rfl) (fun _ _ _ h => h) (Or.inl ⟨by rfl, ?_⟩) (by assumption) ?_
          rotate_left
          · (intro w hSw; (try dsimp only at hSw); (try obtain ⟨hS0, hS1, hS2⟩ := hSw); go_simp; (try with_reducible rfl))
          (try simp only [List.getElem_toArray, List.getElem_cons_succ, List.getElem_cons_zero, Act.put, List.setIfInBounds_toArray, List.set_cons_zero, List.set_cons_succ])
          refine wpAnyH_take (i := 5) (oi := _) (v := ?_) rfl (by kernel_rfl) (by kernel_rfl) (by kernel_rfl) (fun _ _ _ h => h) (Or.inl ⟨by rfl, ?_⟩) (by assumption) ?_
          rotate_left
          · (intro w hSw; (try dsimp only at hSw); (try obtain ⟨hS0, hS1, hS2⟩ := hSw); go_simp; (try with_reducible rfl))
          (try simp only [List.getElem_toArray, List.getElem_cons_succ, List.getElem_cons_zero, Act.put, List.setIfInBounds_toArray, List.set_cons_zero, List.set_cons_succ])
          refine wpAnyH_take (i := 6) (oi := _) (v := ?_) rfl (by kernel_rfl) (by kernel_rfl) (by kernel_rfl) (fun _ _ _ h => h) (Or.inl ⟨by rfl, ?_⟩) (by assumption) ?_
          rotate_left
          · (intro w hSw; (try dsimp only at hSw); (try obtain ⟨hS0, hS1, hS2⟩ := hSw); go_simp; (try with_reducible rfl))
          (try simp only [List.getElem_toArray, List.getElem_cons_succ, List.getElem_cons_zero, Act.put, List.setIfInBounds_toArray, List.set_cons_zero, List.set_cons_succ])
          refine wpAnyH_take (i := 7) (oi := _) (v := ?_) rfl (by kernel_rfl) (by kernel_rfl) (by kernel_rfl) (fun _ _ _ h => h) (Or.inl ⟨by rfl, ?_⟩) (by assumption) ?_
          rotate_left
          · (intro w hSw; (try dsimp only at hSw); (try obtain ⟨hS0, hS1, hS2⟩ := hSw); go_simp; (try with_reducible rfl))
          (try simp only [List.getElem_toArray, List.getElem_cons_succ, List.getElem_cons_zero, Act.put, List.setIfInBounds_toArray, List.set_cons_zero, List.set_cons_succ])
          refine wpAnyH_ready (rs := [1, 8]) (by kernel_rfl) (by simp) ?_
          refine AllReadyH.cons (o := _) rfl (fun K hK => ?_) ?_
          · go_simp
            refine hK.out _ _ (HK.out _ (((Ext.refl wr).alloc (.cells #[] 3)).drew)) (fun hHeld => ?_); clear hK K
            (try simp only [List.getElem_toArray, List.getElem_cons_succ, List.getElem_cons_zero, Act.put, List.setIfInBounds_toArray, List.set_cons_zero, List.set_cons_succ])
            refine wpAnyH_ready (rs := [3, 8]) (by kernel_rfl) (by simp) ?_
            refine AllReadyH.cons (o := _) rfl (fun K hK => ?_) ?_
            · refine step_append_all (s := .tmp 50) (x := .tmp 51) (by rfl) (by rfl) (by rfl) (by rfl) ((Row.madeAt wr.heap.size wr.heap.size wr (by rfl) (Nat.le_refl _)).ext (Ext.refl _).drew) (by omega) h0 (by first | omega | (simp; done) | (simp; omega)) (fun i hi => by obtain ⟨g9, o9, e9, _, c9⟩ := (HM2.out.ext (((Ext.refl wr).alloc (.cells #[] 3)).drew)).at hi; cases e9; exact c9) ?_; intro g4 c4 w4 R4 hb4 hk4
              refine hK.out _ _ (HK.out _ ((((Ext.refl wr).alloc (.cells #[] 3)).drew).below hb4 (Nat.le_refl _))) (fun hHeld => ?_); clear hK K
              (try simp only [List.getElem_toArray, List.getElem_cons_succ, List.getElem_cons_zero, Act.put, List.setIfInBounds_toArray, List.set_cons_zero, List.set_cons_succ])
              refine wpAnyH_ready (rs := [8]) (by kernel_rfl) (by simp) ?_
              refine AllReadyH.cons (o := _) rfl (fun K hK => ?_) AllReadyH.nil
              go_simp
              refine hK.out _ _ (HK.out _ (((((Ext.refl wr).alloc (.cells #[] 3)).drew).below hb4 (Nat.le_refl _)).alloc (.cells #[.int .i64 x] 3))) (fun hHeld => ?_); clear hK K
              (try simp only [List.getElem_toArray, List.getElem_cons_succ, List.getElem_cons_zero, Act.put, List.setIfInBounds_toArray, List.set_cons_zero, List.set_cons_succ])
              have hB8 := Box.new w4 #[.int .i64 x] 3
              have hR8 := R4.ext ((Ext.refl w4).alloc (.cells #[.int .i64 x] 3))
              have hz8 : wr.heap.size ≤ (w4.alloc (.cells #[.int .i64 x] 3)).heap.size := (((((Ext.refl wr).alloc (.cells #[] 3)).drew).below hb4 (Nat.le_refl _)).alloc (.cells #[.int .i64 x] 3)).size
              refine wpAnyH_ready (rs := [9]) (by kernel_rfl) (by simp) ?_
              refine AllReadyH.cons (o := _) rfl (fun K hK => ?_) AllReadyH.nil
              refine step_append_int (s := .tmp 52) (x := .tmp 57) (v := x) (by rfl) (by rfl) (by rfl) (by rfl) hB8 hR8 (by omega) hz8 ?_; intro g5 c5 w5 R5 hb5
              have E5 := Ext.below (((((Ext.refl wr).alloc (.cells #[] 3)).drew).below hb4 (Nat.le_refl _)).alloc (.cells #[.int .i64 x] 3)) hb5 (Nat.le_refl _)
              refine hK.out _ _ (HK.out _ E5) (fun hHeld => ?_); clear hK K
              (try simp only [List.getElem_toArray, List.getElem_cons_succ, List.getElem_cons_zero, Act.put, List.setIfInBounds_toArray, List.set_cons_zero, List.set_cons_succ])
              have C := implWins sb cb l need (some ⟨g5, 0, none⟩) c5 (m ++ [x]) w5 (HL.out.ext (EX.trans E5)) (by omega) R5.lst (by rw [List.length_append]; simp; omega) R5.cap
              rw [List.length_append] at C
              refine wpAnyH_ready (rs := [10]) (by kernel_rfl) (by simp) ?_
              refine AllReadyH.cons (o := _) rfl (fun K hK => ?_) AllReadyH.nil
              go_simp
              refine (Ret.eqB C hwx).mono ?_; rintro e w6 ⟨rfl, E6⟩
              refine hK.out _ _ (HK.out _ (E5.trans E6)) (fun hHeld => ?_); clear hK K
              (try simp only [List.getElem_toArray, List.getElem_cons_succ, List.getElem_cons_zero, Act.put, List.setIfInBounds_toArray, List.set_cons_zero, List.set_cons_succ])
              refine wpAnyH_take (i := 11) (oi := _) (v := ?_) rfl (by kernel_rfl) (by kernel_rfl) (by kernel_rfl) (fun _ _ _ h => h) (Or.inl ⟨by rfl, ?_⟩) (by assumption) ?_
              rotate_left
              · (intro w hSw; (try dsimp only at hSw); (try obtain ⟨hS0, hS1, hS2⟩ := hSw); go_simp; (try with_reducible rfl))
              (try simp only [List.getElem_toArray, List.getElem_cons_succ, List.getElem_cons_zero, Act.put, List.setIfInBounds_toArray, List.set_cons_zero, List.set_cons_succ])
              refine wpAnyH_done (by kernel_rfl) ?_ _
              go_wp2
              go_roundw
              case rel => exact ⟨k + 1, by omega, by go_num, hE.trans (E5.trans E6)⟩
              case measure => simp [intOf]; omega
            refine AllReadyH.cons (o := _) rfl (fun K hK => ?_) AllReadyH.nil
            go_simp
            refine hK.out _ _ (HK.out _ ((((Ext.refl wr).alloc (.cells #[] 3)).alloc (.cells #[.int .i64 x] 3)).drew)) (fun hHeld => ?_); clear hK K
            (try simp only [List.getElem_toArray, List.getElem_cons_succ, List.getElem_cons_zero, Act.put, List.setIfInBounds_toArray, List.set_cons_zero, List.set_cons_succ])
            refine wpAnyH_ready (rs := [3]) (by kernel_rfl) (by simp) ?_
            refine AllReadyH.cons (o := _) rfl (fun K hK => ?_) AllReadyH.nil
            refine step_append_all (s := .tmp 50) (x := .tmp 51) (by rfl) (by rfl) (by rfl) (by rfl) (((Row.madeAt wr.heap.size wr.heap.size wr (by rfl) (Nat.le_refl _)).ext ((Ext.refl (wr.alloc (.cells #[] 3))).alloc (.cells #[.int .i64 x] 3))).ext (Ext.refl _).drew) (by omega) h0 (by first | omega | (simp; done) | (simp; omega)) (fun i hi => by obtain ⟨g9, o9, e9, _, c9⟩ := (HM2.out.ext ((((Ext.refl wr).alloc (.cells #[] 3)).alloc (.cells #[.int .i64 x] 3)).drew)).at hi; cases e9; exact c9) ?_; intro g4 c4 w4 R4 hb4 hk4
            refine hK.out _ _ (HK.out _ (((((Ext.refl wr).alloc (.cells #[] 3)).alloc (.cells #[.int .i64 x] 3)).drew).below hb4 (Nat.le_refl _))) (fun hHeld => ?_); clear hK K
            (try simp only [List.getElem_toArray, List.getElem_cons_succ, List.getElem_cons_zero, Act.put, List.setIfInBounds_toArray, List.set_cons_zero, List.set_cons_succ])
            have hB8 : Box w4 (wr.heap.size + 1) #[.int .i64 x] 3 := (hk4 (wr.heap.size + 1) (by first | omega | (simp; done) | (simp; omega)) (by omega)).trans (Box.newAt (wr.alloc (.cells #[] 3)) (wr.heap.size + 1) #[.int .i64 x] 3 (by simp)).drew
            have hR8 := R4
            have hz8 : wr.heap.size ≤ w4.heap.size := (((((Ext.refl wr).alloc (.cells #[] 3)).alloc (.cells #[.int .i64 x] 3)).drew).below hb4 (Nat.le_refl _)).size
            refine wpAnyH_ready (rs := [9]) (by kernel_rfl) (by simp) ?_
            refine AllReadyH.cons (o := _) rfl (fun K hK => ?_) AllReadyH.nil
            refine step_append_int (s := .tmp 52) (x := .tmp 57) (v := x) (by rfl) (by rfl) (by rfl) (by rfl) hB8 hR8 (by omega) hz8 ?_; intro g5 c5 w5 R5 hb5
            have E5 := Ext.below (((((Ext.refl wr).alloc (.cells #[] 3)).alloc (.cells #[.int .i64 x] 3)).drew).below hb4 (Nat.le_refl _)) hb5 (Nat.le_refl _)
            refine hK.out _ _ (HK.out _ E5) (fun hHeld => ?_); clear hK K
            (try simp only [List.getElem_toArray, List.getElem_cons_succ, List.getElem_cons_zero, Act.put, List.setIfInBounds_toArray, List.set_cons_zero, List.set_cons_succ])
            have C := implWins sb cb l need (some ⟨g5, 0, none⟩) c5 (m ++ [x]) w5 (HL.out.ext (EX.trans E5)) (by omega) R5.lst (by rw [List.length_append]; simp; omega) R5.cap
            rw [List.length_append] at C
            refine wpAnyH_ready (rs := [10]) (by kernel_rfl) (by simp) ?_
            refine AllReadyH.cons (o := _) rfl (fun K hK => ?_) AllReadyH.nil
            go_simp
            refine (Ret.eqB C hwx).mono ?_; rintro e w6 ⟨rfl, E6⟩
            refine hK.out _ _ (HK.out _ (E5.trans E6)) (fun hHeld => ?_); clear hK K
            (try simp only [List.getElem_toArray, List.getElem_cons_succ, List.getElem_cons_zero, Act.put, List.setIfInBounds_toArray, List.set_cons_zero, List.set_cons_succ])
            refine wpAnyH_take (i := 11) (oi := _) (v := ?_) rfl (by kernel_rfl) (by kernel_rfl) (by kernel_rfl) (fun _ _ _ h => h) (Or.inl ⟨by rfl, ?_⟩) (by assumption) ?_
            rotate_left
            · (intro w hSw; (try dsimp only at hSw); (try obtain ⟨hS0, hS1, hS2⟩ := hSw); go_simp; (try with_reducible rfl))
            (try simp only [List.getElem_toArray, List.getElem_cons_succ, List.getElem_cons_zero, Act.put, List.setIfInBounds_toArray, List.set_cons_zero, List.set_cons_succ])
            refine wpAnyH_done (by kernel_rfl) ?_ _
            go_wp2
            go_roundw
            case rel => exact ⟨k + 1, by omega, by go_num, hE.trans (E5.trans E6)⟩
            case measure => simp [intOf]; omega
          refine AllReadyH.cons (o := _) rfl (fun K hK => ?_) AllReadyH.nil
          go_simp
          refine hK.out _ _ (HK.out _ (((Ext.refl wr).alloc (.cells #[.int .i64 x] 3)).drew)) (fun hHeld => ?_); clear hK K
          (try simp only [List.getElem_toArray, List.getElem_cons_succ, List.getElem_cons_zero, Act.put, List.setIfInBounds_toArray, List.set_cons_zero, List.set_cons_succ])
          refine wpAnyH_ready (rs := [1]) (by kernel_rfl) (by simp) ?_
          refine AllReadyH.cons (o := _) rfl (fun K hK => ?_) AllReadyH.nil
          go_simp
          refine hK.out _ _ (HK.out _ ((((Ext.refl wr).alloc (.cells #[.int .i64 x] 3)).alloc (.cells #[] 3)).drew)) (fun hHeld => ?_); clear hK K
          (try simp only [List.getElem_toArray, List.getElem_cons_succ, List.getElem_cons_zero, Act.put, List.setIfInBounds_toArray, List.set_cons_zero, List.set_cons_succ])
          refine wpAnyH_ready (rs := [3]) (by kernel_rfl) (by simp) ?_
          refine AllReadyH.cons (o := _) rfl (fun K hK => ?_) AllReadyH.nil
          refine step_append_all (s := .tmp 50) (x := .tmp 51) (by rfl) (by rfl) (by rfl) (by rfl) ((Row.madeAt wr.heap.size (wr.heap.size + 1) (wr.alloc (.cells #[.int .i64 x] 3)) (by simp) (by omega)).ext (Ext.refl _).drew) (by omega) h0 (by first | omega | (simp; done) | (simp; omega)) (fun i hi => by obtain ⟨g9, o9, e9, _, c9⟩ := (HM2.out.ext ((((Ext.refl wr).alloc (.cells #[.int .i64 x] 3)).alloc (.cells #[] 3)).drew)).at hi; cases e9; exact c9) ?_; intro g4 c4 w4 R4 hb4 hk4
          refine hK.out _ _ (HK.out _ (((((Ext.refl wr).alloc (.cells #[.int .i64 x] 3)).alloc (.cells #[] 3)).drew).below hb4 (Nat.le_refl _))) (fun hHeld => ?_); clear hK K
          (try simp only [List.getElem_toArray, List.getElem_cons_succ, List.getElem_cons_zero, Act.put, List.setIfInBounds_toArray, List.set_cons_zero, List.set_cons_succ])
          have hB8 : Box w4 wr.heap.size #[.int .i64 x] 3 := (hk4 wr.heap.size (by first | omega | (simp; done) | (simp; omega)) (by omega)).trans ((Box.newAt wr wr.heap.size #[.int .i64 x] 3 (by rfl)).push (.cells #[] 3)).drew
          have hR8 := R4
          have hz8 : wr.heap.size ≤ w4.heap.size := (((((Ext.refl wr).alloc (.cells #[.int .i64 x] 3)).alloc (.cells #[] 3)).drew).below hb4 (Nat.le_refl _)).size
          refine wpAnyH_ready (rs := [9]) (by kernel_rfl) (by simp) ?_
          refine AllReadyH.cons (o := _) rfl (fun K hK => ?_) AllReadyH.nil
          refine step_append_int (s := .tmp 52) (x := .tmp 57) (v := x) (by rfl) (by rfl) (by rfl) (by rfl) hB8 hR8 (by omega) hz8 ?_; intro g5 c5 w5 R5 hb5
          have E5 := Ext.below (((((Ext.refl wr).alloc (.cells #[.int .i64 x] 3)).alloc (.cells #[] 3)).drew).below hb4 (Nat.le_refl _)) hb5 (Nat.le_refl _)
          refine hK.out _ _ (HK.out _ E5) (fun hHeld => ?_); clear hK K
          (try simp only [List.getElem_toArray, List.getElem_cons_succ, List.getElem_cons_zero, Act.put, List.setIfInBounds_toArray, List.set_cons_zero, List.set_cons_succ])
          have C := implWins sb cb l need (some ⟨g5, 0, none⟩) c5 (m ++ [x]) w5 (HL.out.ext (EX.trans E5)) (by omega) R5.lst (by rw [List.length_append]; simp; omega) R5.cap
          rw [List.length_append] at C
          refine wpAnyH_ready (rs := [10]) (by kernel_rfl) (by simp) ?_
          refine AllReadyH.cons (o := _) rfl (fun K hK => ?_) AllReadyH.nil
          go_simp
          refine (Ret.eqB C hwx).mono ?_; rintro e w6 ⟨rfl, E6⟩
          refine hK.out _ _ (HK.out _ (E5.trans E6)) (fun hHeld => ?_); clear hK K
          (try simp only [List.getElem_toArray, List.getElem_cons_succ, List.getElem_cons_zero, Act.put, List.setIfInBounds_toArray, List.set_cons_zero, List.set_cons_succ])
          refine wpAnyH_take (i := 11) (oi := _) (v := ?_) rfl (by kernel_rfl) (by kernel_rfl) (by kernel_rfl) (fun _ _ _ h => h) (Or.inl ⟨by rfl, ?_⟩) (by assumption) ?_
          rotate_left
          · (intro w hSw; (try dsimp only at hSw); (try obtain ⟨hS0, hS1, hS2⟩ := hSw); go_simp; (try with_reducible rfl))
          (try simp only [List.getElem_toArray, List.getElem_cons_succ, List.getElem_cons_zero, Act.put, List.setIfInBounds_toArray, List.set_cons_zero, List.set_cons_succ])
          refine wpAnyH_done (by kernel_rfl) ?_ _
          go_wp2
          go_roundw
          case rel => exact ⟨k + 1, by omega, by go_num, hE.trans (E5.trans E6)⟩
          case measure => simp [intOf]; omega
        · obtain rfl : k = O.length := by omega
          obtain ⟨c0, c1, _, _⟩ := XR.two
          have CA := implWins sb cb l need s4 c4 NA wr (HL.out.ext EX) (by omega) (HA.out.ext hE) (by omega) hac
          go_wp2_with fail; refine (Ret.eqB CA HAl.out).mono ?_; rintro e w6 ⟨rfl, E6⟩
          clear c0 c1
          obtain ⟨c0, c1, _, _⟩ := (XR.keep E6).two
          have CN := implWins sb cb l need none 0 [] w6 (HL.out.ext (EX.trans E6)) (by omega) (.inl rfl) (by simp) (by simp)
          go_wp2_with fail; refine (Ret.eqB CN wins_none).mono ?_; rintro e w7 ⟨rfl, E7⟩
          go_wp2
          go_ret
          exact ⟨rfl, E1.trans (EX.trans (E6.trans E7))⟩
    · rw [Bool.not_eq_true] at hw
      go_wp2_with fail; refine (Ret.eqB (implWins sb cb l need sm cm m _ (HL.out.ext EA) (by omega) (HM.out.ext EA) (by omega) hmc) hw).mono ?_; rintro e w2 ⟨rfl, E2⟩
      clear c0 c1
      obtain ⟨c0, c1, _, _⟩ := (X1.keep E2).two
      go_wp2_with fail; refine (Ret.eqB (CS.out _ (HL.out.ext (EA.trans E2)) (HM.out.ext (EA.trans E2))) hw).mono ?_; rintro e w3 ⟨rfl, E3⟩
      clear c0 c1
      have E13 := EA.trans (E2.trans E3)
      obtain ⟨c0, c1, _, _⟩ := (X1.keep (E2.trans E3)).two
      go_wp2_with fail; refine (Ret.eqB (CS.out _ (HL.out.ext E13) (HM.out.ext E13)) hw).mono ?_; rintro e w4 ⟨rfl, E4⟩
      go_wp2
      go_ret
      exact ⟨rfl, E1.trans (E13.trans E4)⟩
end Go.Proofs.Ytjdfdikifiljjaa
