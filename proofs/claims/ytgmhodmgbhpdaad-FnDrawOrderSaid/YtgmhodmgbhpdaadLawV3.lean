/- Chapter 3: an append of a whole list of reveals in a drawn region; the walk of the law of fair draws, at drawn arguments. -/
import Derived.Test.YtgmhodmgbhpdaadLawV2
namespace Go.Proofs.Ytgmhodmgbhpdaad
open Go.ChangeShapes Go.WideShapes Go.ChangeAt Go.RowKit Go.Joins Go.Sort
set_option linter.unusedVariables false

theorem rowV_madeAt {w W : World} (e : Ext w W) (k : Nat) (hk : k = W.heap.size) : RowV k (W.alloc (.cells #[] 31)) (some ⟨k, 0, none⟩) 0 [] := by subst hk; exact RowV.made _ W (Nat.le_refl _)
theorem box_madeAt {w W : World} (e : Ext w W) (k : Nat) (cs : Array Value) (T : TypeId) (hk : k = W.heap.size) : Box (W.alloc (.cells cs T)) k cs T := Box.newAt W k cs T hk
theorem Box.lies {w1 w' : World} {sa : Option Addr} {k : Nat} {cs : Array Value} {T : TypeId} (h : Box w1 k cs T) (hc : ∀ k, k < w1.heap.size → sa ≠ some ⟨k, 0, none⟩ → w'.heap[k]? = w1.heap[k]?) (hne : sa ≠ some ⟨k, 0, none⟩) : Box w' k cs T :=
  (hc k h.lt hne).trans h
theorem step_append_rvs {ops : Array Oper} {o : Oper} {a : Act} {K : Act → World → Prop} {Q : Exit → Act → World → Prop} {E : Prop} {s x : Operand} (hgd : o.guard = none)
    (ho : o.op = .call { callee := .builtin .append, args := #[s, x], argTypes := #[23, 23] }) {base : Nat} {w1 : World} {sa sx : Option Addr} {n m cap cx : Nat} {l1 l : List Rv}
    (hs : a.eval s = .slice sa n cap) (hx : a.eval x = .slice sx m cx) (hn : l1.length = n) (hm : l.length = m) (R : RowV base w1 sa cap l1) (hl1 : n ≤ 1000000) (hl : m ≤ 1000000) (hb : base ≤ w1.heap.size)
    (hc : Rst w1 sx l)
    (h : ∀ sg cap' w', RowV base w' sg cap' (l1 ++ l) → Below base w1 w' → (∀ k, k < w1.heap.size → sa ≠ some ⟨k, 0, none⟩ → w'.heap[k]? = w1.heap[k]?) → K (a.put o.dst (.slice sg (n + m) cap')) w') :
    if Region.wanted o (yielded ops a.tmps) = true then Oper.wp Try.prog o a w1 K Q else E := by
  subst hn hm
  obtain ⟨i0, hi, hz0, hz1, hz2⟩ := info_parts Try.infoRv
  by_cases h0 : 0 < l.length
  · obtain ⟨g, off, rfl, hg, hS⟩ := hc.spot h0
    refine step_append_lies w1 hgd s x 23 ho base 31 i0 _ 3 24 Try.underlying23 hi hz0 hz1 hz2 rfl (by decide) _ _ _ hs R.own ⟨g, off, none⟩ l.length cx ((flatR l).map (Value.int .i64)) hx (by rw [List.length_map, flatR_len]) ?_ ?_ h0 (by unfold maxLen; omega) (by omega) hb _ rfl ?_
    · intro j u hj
      rw [List.getElem?_map] at hj
      have hfl := flatR_len l
      by_cases hjl : j < (flatR l).length
      · rw [add_addr]
        have hi2 : j / 3 < l.length := by omega
        obtain ⟨g2, off2, e, _, c0, c1, c2⟩ := hS.at hi2
        cases e
        have hf := flatR_at l (j / 3)
        rw [List.getElem?_eq_getElem hjl] at hj
        simp at hj
        subst hj
        have e2 : (flatR l).getD j 0 = (flatR l)[j] := by rw [List.getD_eq_getElem?_getD, List.getElem?_eq_getElem hjl]; rfl
        rw [← e2]
        rcases (show j % 3 = 0 ∨ j % 3 = 1 ∨ j % 3 = 2 by omega) with hm | hm | hm
        · rw [show j = j / 3 * 3 by omega, hf.1, ← c0]
        · rw [show off + j = off + j / 3 * 3 + 1 by omega, c1, ← hf.2.1, show j / 3 * 3 + 1 = j by omega]
        · rw [show off + j = off + j / 3 * 3 + 2 by omega, c2, ← hf.2.2, show j / 3 * 3 + 2 = j by omega]
      · rw [List.getElem?_eq_none (by omega)] at hj; simp at hj
    · intro u hu
      obtain ⟨x, _, rfl⟩ := List.mem_map.1 hu
      rfl
    · intro g' cap' w2 hown hgrow hat hlt
      have hown2 : ∀ k, (Value.slice sa l1.length cap).ownBlock = some k → sa = some ⟨k, 0, none⟩ := by
        intro k hk
        rcases R.2 with ⟨h2, _⟩ | ⟨b, c, cur, h2, h3, h4, h5⟩
        · simp only [Value.slice.injEq] at h2; rw [h2.1] at hk; simp [Value.ownBlock] at hk
        · simp only [Value.slice.injEq] at h2; rw [h2.1] at hk ⊢; simp [Value.ownBlock] at hk; rw [hk]
      refine h (some ⟨g', 0, none⟩) cap' w2 ?_ ((Below.refl _ _).grown hgrow hb fun k hk => (World.ownsRow.lt R.own k hk).1) (fun k hk hne => hgrow.block k hk (fun e => hne (hown2 k e.symm)))
      show w2.ownsRow base 31 3 (.slice (some ⟨g', 0, none⟩) (l1 ++ l).length cap') (l1 ++ l).length ((flatR (l1 ++ l)).map (Value.int .i64))
      rw [flatR_append, List.map_append, List.length_append]; exact hown
  · have e : l = [] := List.length_eq_zero_iff.1 (by omega)
    subst e
    have hw : Region.wanted o (yielded ops a.tmps) = true := by simp [Region.wanted, hgd]
    rw [if_pos hw]
    have hsrc : Src Try.prog i0.size 23 (.slice sx 0 cx) 0 [] w1 := by
      cases sx with
      | none => exact Src.ofNil w1 Try.underlying23 cx
      | some ad => exact Src.ofSlice w1 Try.underlying23 ad 0 cx [] (by simp) (fun j u hj => by simp at hj) (by simp)
    have hrun := run_append_nothing (P := Try.prog) w1 23 23 o.type 31 i0 Try.underlying23 hi sa l1.length cap R.cap (.slice sx 0 cx) hsrc
    unfold Oper.wp
    simp [execOp, ho, resolve, invoke, builtin, hs, hx, hrun, Result.andThen]
    exact h sa cap w1 (by rw [List.append_nil]; exact R) (Below.refl _ _) (fun _ _ _ => rfl)

theorem dw_more {ll : List Rv} {n v : Int} (h : dwOk ll n) (hl : ll.length ≤ 11) (h0 : 0 ≤ v) (h1 : v ≤ 50000) (s : Int) (s0 : 0 ≤ s) (s1 : s ≤ 9999) :
    dwS (ll ++ [⟨cmt v s, v, s⟩]) n = dwS ll n + v ∧ dwC (ll ++ [⟨cmt v s, v, s⟩]) n = (dwS ll n + v) % n := by
  have hr : rvsOk (ll ++ [⟨cmt v s, v, s⟩]) := by
    refine ⟨by rw [List.length_append]; simp; omega, fun i hi => ?_⟩
    rw [List.length_append] at hi
    by_cases e : i < ll.length
    · rw [List.getD_eq_getElem?_getD, List.getElem?_append_left e, ← List.getD_eq_getElem?_getD]; exact h.1.2 i e
    · have e2 : i = ll.length := by simp at hi; omega
      rw [List.getD_eq_getElem?_getD, List.getElem?_append_right (by omega), e2, Nat.sub_self]
      exact ⟨⟨h0, h1⟩, s0, s1⟩
  have h2 : dwOk (ll ++ [⟨cmt v s, v, s⟩]) n := ⟨hr, h.2⟩
  have hh : hnB ⟨cmt v s, v, s⟩ = true := by unfold hnB; simp
  have e : smL (ll ++ [⟨cmt v s, v, s⟩]) = smL ll + v := by
    rw [smL_append]; show smL ll + ((if hnB ⟨cmt v s, v, s⟩ = true then v else 0) + 0) = _
    rw [if_pos hh]; omega
  rw [dwS_yes h2, dwC_yes h2, dwS_yes h, smK_all, smK_all, e]
  exact ⟨rfl, rfl⟩
/-- the places that the first v values give are marked, no others -/
def seenOk (S : Int) (N : Nat) (B : List Bool) (v : Nat) : Prop := ∀ c, c < N → (B.getD c false = true ↔ ∃ u : Nat, u < v ∧ (S + (u : Int)) % (N : Int) = (c : Int))
theorem mod_far {S : Int} {N u v : Nat} (huv : u < v) (hv : v < N) (h : (S + (u : Int)) % (N : Int) = (S + (v : Int)) % (N : Int)) : False := by
  have h2 := Int.emod_emod_of_dvd (S + (v : Int)) (Int.dvd_refl (N : Int))
  have h3 : ((S + (v : Int)) - (S + (u : Int))) % (N : Int) = 0 := by rw [Int.sub_emod, h, Int.sub_self, Int.zero_emod]
  have h4 : (N : Int) ∣ (v : Int) - (u : Int) := by
    have := Int.dvd_of_emod_eq_zero h3
    rwa [show (S + (v : Int)) - (S + (u : Int)) = (v : Int) - (u : Int) by omega] at this
  have := Int.le_of_dvd (by omega) h4
  omega
theorem seen_zero (S : Int) (N : Nat) : seenOk S N (List.replicate N false) 0 := fun c hc => by
  rw [List.getD_eq_getElem?_getD, List.getElem?_replicate]
  split <;> simp
theorem seen_fresh {S : Int} {N : Nat} {B : List Bool} {v z : Nat} (h : seenOk S N B v) (hv : v < N) (hz : z < N) (e : (S + (v : Int)) % (N : Int) = (z : Int)) : B.getD z false = false := by
  cases hb : B.getD z false with
  | false => rfl
  | true =>
    obtain ⟨u, hu, e2⟩ := (h z hz).1 hb
    exact (mod_far hu hv (e2.trans e.symm)).elim
theorem seen_step {S : Int} {N : Nat} {B : List Bool} {v z : Nat} (h : seenOk S N B v) (hl : B.length = N) (hz : z < N) (e : (S + (v : Int)) % (N : Int) = (z : Int)) : seenOk S N (B.set z true) (v + 1) := fun c hc => by
  by_cases hcz : c = z
  · subst hcz
    rw [List.getD_eq_getElem?_getD, List.getElem?_set_self (by omega)]
    exact ⟨fun _ => ⟨v, by omega, e⟩, fun _ => rfl⟩
  · rw [List.getD_eq_getElem?_getD, List.getElem?_set_ne (by omega), ← List.getD_eq_getElem?_getD, h c hc]
    constructor
    · rintro ⟨u, hu, e2⟩; exact ⟨u, by omega, e2⟩
    · rintro ⟨u, hu, e2⟩
      by_cases huv : u = v
      · subst huv; omega
      · exact ⟨u, by omega, e2⟩
def bools (l : List Bool) : Array Value := (l.map Value.bool).toArray
theorem Box.boolAt {w : World} {g : Nat} {l : List Bool} {T : TypeId} (h : Box w g (bools l) T) {j : Nat} (hj : j < l.length) : w.cell? ⟨g, j, none⟩ = some (.bool (l.getD j false)) := by
  rw [cell_of_block h j]; simp [bools, hj, List.getD_eq_getElem?_getD]
theorem Box.boolSet {w : World} {g : Nat} {l : List Bool} {T : TypeId} (h : Box w g (bools l) T) (j : Nat) (x : Bool) : Box (w.setCell ⟨g, j, none⟩ (.bool x)) g (bools (l.set j x)) T := by
  have := Box.set h j (.bool x)
  unfold bools
  rw [List.map_set]
  simpa [bools] using this
theorem Try.infoBo : (Try.prog.info? 4).map (fun i => (i.zero, i.size, i.bytes)) = some (some (.bool false), 1, 1) := by kernel_rfl
theorem run_makeBo (n : Nat) (hn : n ≤ 1000) (w : World) : (Instr.makeSlice 38 (.int .i64 (n : Int)) (.int .i64 (n : Int))).run Try.prog w =
    .ok (.slice (some ⟨w.heap.size, 0, none⟩) n n) (w.alloc (.cells (bools (List.replicate n false)) 4)) := by
  obtain ⟨i0, hi, hz0, hz1, hz2⟩ := info_parts Try.infoBo
  have hr := run_make (P := Try.prog) w 38 4 i0 _ Try.underlying38 hi hz0 .i64 .i64 n n (by omega) (Int.le_refl _) (by rw [hz2]; omega) (by omega)
  rw [hz1, Int.toNat_natCast, Nat.mul_one] at hr
  rw [hr]
  have e : madeCells (Value.bool false).cells n = bools (List.replicate n false) := by
    apply Array.ext
    · simp [madeCells, bools]
    · intro i h1 h2
      simp [madeCells, Value.cells, bools, Nat.mod_one]
  rw [e]
/-- the program's draw of reveals whose draw is known -/
theorem draw_is (s : Option Addr) (c k : Nat) (K : List Rv) (n S C : Int) (w : World) (hK : Rst w s K) (hk : K.length = k) (hl : k ≤ 1000) (h : dwS K n = S ∧ dwC K n = C) :
    Calls Try.prog 19 #[.slice s k c, .int .i64 n] w fun e w' => e = .returned (.tuple #[.int .i64 S, .int .i64 C]) ∧ Ext w w' := by
  subst hk
  refine (implDraw s c K n w hK (by omega)).mono ?_
  intro e w' ⟨h1, h2⟩
  rw [h.1, h.2] at h1
  exact ⟨h1, h2⟩
set_option maxRecDepth 100000 in
set_option maxHeartbeats 1600000 in
theorem walkFnDrawOfFair (w : World) (sa : Option Addr) (len cap : Nat) (h : Code w sa len cap) (hl : len ≤ maxLen) :
    Calls Try.prog 5 #[.slice sa len cap] w fun e w' => e = .returned (.bool true) ∧ Below w.heap.size w w' := by
  have hl' := hl
  unfold maxLen at hl'
  by_cases hbig : 1048576 < len
  · clear h hl
    go_enter Try.func5, Try.ntmps5
    go_wp2
    go_ret
    exact ⟨rfl, Below.refl _ _⟩
  go_enter Try.func5, Try.ntmps5
  go_wp2_with fail
  refine (dDrawDrawOf sa len cap w h hl).mono ?_
  rintro e w1 ⟨sl, cl, l, n, rfl, RA, na, n0, n1, E1⟩
  clear h hl hl' hbig
  obtain ⟨N, rfl⟩ := Int.eq_ofNat_of_zero_le n0
  have HL := hide RA.rst
  clear RA n0
  have HP1 := hide (fun w2 (e : Ext w1 w2) => implDraw sl cl l N w2 (HL.out.ext e) (by omega))
  have HP2 := hide (fun w2 (e : Ext w1 w2) => specDraw sl cl l N w2 (HL.out.ext e) (by omega))
  unfold DwRet at HP1 HP2
  have hl12 : ((l.length : Int) == 12) = false := by rw [beq_eq_false_iff_ne]; omega
  by_cases h0 : 0 ≤ dwS l N
  · have hd := dw_facts h0
    have HMR := hide (fun (v : Nat) (hv : v ≤ 50000) => dw_more hd (by omega) (v := (v : Int)) (by omega) (by omega) 17 (by omega) (by omega))
    have hn1 : 1 ≤ (N : Int) := hd.2.1
    clear hd
    obtain ⟨S, hS⟩ : ∃ S, S = dwS l N := ⟨_, rfl⟩; rw [← hS] at HP1 HP2 HMR h0
    obtain ⟨C, hC⟩ : ∃ C, C = dwC l N := ⟨_, rfl⟩; rw [← hC] at HP1 HP2
    clear hS hC
    have hss : ((S : Int) != S) = false := by simp
    have hcc : ((C : Int) != C) = false := by simp
    have hse : ((S : Int) == S) = true := by simp
    have hce : ((C : Int) == C) = true := by simp
    have hs0 : ¬ S < 0 := by omega
    go_wp2_with fail; refine (HP1.out _ (Ext.refl _)).mono ?_; rintro e w2 ⟨rfl, E2⟩
    go_wp2_with fail; refine (HP2.out _ E2).mono ?_; rintro e w3 ⟨rfl, E3⟩
    have E13 := E2.trans E3
    by_cases hn40 : 40 < (N : Int)
    · go_wp2
      go_ret
      exact ⟨rfl, E1.trans E13⟩
    have HL3 := hide (HL.out.ext E13)
    have hmk := run_makeBo N (by omega) w3
    have HSZ := hide (seen_zero S N)
    have HLZ := hide (show (List.replicate N false).length = N by simp)
    obtain ⟨B0, hB0⟩ : ∃ B0, B0 = List.replicate N false := ⟨_, rfl⟩; rw [← hB0] at hmk HSZ HLZ
    clear hB0
    go_wp2
    go_loopw [10] (fun i wr => ∃ (v : Nat) (B : List Bool), v ≤ N ∧ i = .int .i64 v ∧ Hid (B.length = N) ∧ Hid (seenOk S N B v) ∧ Box wr w3.heap.size (bools B) 4 ∧ Ext w3 wr) (fun i _ => N - (intOf i).toNat)
    case atStart => exact ⟨0, B0, Nat.zero_le _, rfl, HLZ, HSZ, Box.new w3 (bools B0) 4, (Ext.refl w3).alloc _⟩
    case round =>
      clear hmk
      obtain ⟨v, B, hv, rfl, HBL, HSE, XB, hE⟩ := hrel
      by_cases hlt : v < N
      · have hki : (v : Int) < (N : Int) := by omega
        obtain ⟨z, hz⟩ := Int.eq_ofNat_of_zero_le (Int.emod_nonneg (S + (v : Int)) (show (N : Int) ≠ 0 by omega))
        have hzn : z < N := by have := Int.emod_lt_of_pos (S + (v : Int)) (show (0 : Int) < N by omega); omega
        have HFR := hide (seen_fresh HSE.out hlt hzn hz)
        have HS10 := hide (seen_step HSE.out HBL.out hzn hz)
        have hM := HMR.out v (by omega)
        rw [hz] at hM
        have HDR := hide (fun s c k w2 (h : Rst w2 s (([] ++ l) ++ [⟨cmt (v : Int) 17, (v : Int), 17⟩])) (hk : (([] ++ l) ++ [(⟨cmt (v : Int) 17, (v : Int), 17⟩ : Rv)]).length = k) => draw_is s c k (l ++ [⟨cmt (v : Int) 17, (v : Int), 17⟩]) N (S + (v : Int)) z w2 h hk (by rw [← hk]; simp; omega) hM)
        have HCM := hide (fun w => implCommit (v : Int) 17 w)
        rw [cm_yes (show cOk (v : Int) 17 from ⟨⟨by omega, by omega⟩, by omega, by omega⟩)] at HCM
        obtain ⟨m, hm⟩ : ∃ m, m = cmt (v : Int) 17 := ⟨_, rfl⟩; rw [← hm] at HDR HCM
        have HXB := hide XB
        clear hM hz hm XB
        have hz0 : ¬ (z : Int) < 0 := by omega
        have hz1 : ¬ (N : Int) ≤ (z : Int) := by omega
        have hz2 : (z : Int) < (N : Int) := by omega
        go_wp2_with fail; refine (HCM.out _).mono ?_; rintro e w' ⟨rfl, rfl⟩
        have X6 := Box.new wr #[.int .i64 m, .int .i64 (v : Int), .int .i64 17] 31
        have HLW := hide (HL3.out.ext (hE.alloc (.cells #[.int .i64 m, .int .i64 (v : Int), .int .i64 17] 31)))
        have HK := hide (fun w2 (e : Ext (wr.alloc (.cells #[.int .i64 m, .int .i64 (v : Int), .int .i64 17] 31)) w2) => (X6.keep e).three)
        clear X6
        go_wp2
        refine wp_region_held_drew (S := (fun w' => w'.cell? ⟨wr.heap.size, 0, none⟩ = some (.int .i64 m) ∧ w'.cell? ⟨wr.heap.size, 1, none⟩ = some (.int .i64 (v : Int)) ∧ w'.cell? ⟨wr.heap.size, 2, none⟩ = some (.int .i64 17))) (by kernel_rfl) (by first | exact HK.out _ ((Ext.refl (wr.alloc (.cells #[.int .i64 m, .int .i64 (v : Int), .int .i64 17] 31))).drew)) (fun hHeld => ?_)
        refine wpAnyH_take (i := 1) (oi := _) (v := ?_) rfl (by kernel_rfl) (by kernel_rfl) (by kernel_rfl) (fun _ _ _ h => h) (Or.inl ⟨by rfl, ?_⟩) (by assumption) ?_
        rotate_left
        · (intro w hSw; (try dsimp only at hSw); (try obtain ⟨hS0, hS1, hS2⟩ := hSw); go_simp; (try with_reducible rfl))
        (try simp only [List.getElem_toArray, List.getElem_cons_succ, List.getElem_cons_zero, Act.put, List.setIfInBounds_toArray, List.set_cons_zero, List.set_cons_succ])
        refine wpAnyH_take (i := 3) (oi := _) (v := ?_) rfl (by kernel_rfl) (by kernel_rfl) (by kernel_rfl) (fun _ _ _ h => h) (Or.inl ⟨by rfl, ?_⟩) (by assumption) ?_
        rotate_left
        · (intro w hSw; (try dsimp only at hSw); (try obtain ⟨hS0, hS1, hS2⟩ := hSw); go_simp; (try with_reducible rfl))
        (try simp only [List.getElem_toArray, List.getElem_cons_succ, List.getElem_cons_zero, Act.put, List.setIfInBounds_toArray, List.set_cons_zero, List.set_cons_succ])
        refine wpAnyH_take (i := 6) (oi := _) (v := ?_) rfl (by kernel_rfl) (by kernel_rfl) (by kernel_rfl) (fun _ _ _ h => h) (Or.inl ⟨by rfl, ?_⟩) (by assumption) ?_
        rotate_left
        · (intro w hSw; (try dsimp only at hSw); (try obtain ⟨hS0, hS1, hS2⟩ := hSw); go_simp; (try with_reducible rfl))
        (try simp only [List.getElem_toArray, List.getElem_cons_succ, List.getElem_cons_zero, Act.put, List.setIfInBounds_toArray, List.set_cons_zero, List.set_cons_succ])
        refine wpAnyH_ready (rs := [0, 4]) (by kernel_rfl) (by simp) ?_
        refine AllReadyH.cons (o := _) rfl (fun K hK => ?_) ?_
        · go_simp
          refine hK.out _ _ (HK.out _ (((Ext.refl (wr.alloc (.cells #[.int .i64 m, .int .i64 (v : Int), .int .i64 17] 31))).drew).alloc (.cells #[] 31))) (fun hHeld => ?_); clear hK K
          (try simp only [List.getElem_toArray, List.getElem_cons_succ, List.getElem_cons_zero, Act.put, List.setIfInBounds_toArray, List.set_cons_zero, List.set_cons_succ])
          have R0 := rowV_madeAt ((Ext.refl (wr.alloc (.cells #[.int .i64 m, .int .i64 (v : Int), .int .i64 17] 31))).drew) (wr.heap.size + 1) (by simp)
          have hz0 : (wr.alloc (.cells #[.int .i64 m, .int .i64 (v : Int), .int .i64 17] 31)).heap.size ≤ wr.heap.size + 1 := by simp
          refine wpAnyH_ready (rs := [2, 4]) (by kernel_rfl) (by simp) ?_
          refine AllReadyH.cons (o := _) rfl (fun K hK => ?_) ?_
          · refine step_append_rvs (n := 0) (m := l.length) (l1 := []) (l := l) (s := .tmp 75) (x := .tmp 76) (by rfl) (by rfl) (by rfl) (by rfl) rfl rfl R0 (by omega) (by omega) (by first | (simp; done) | (simp; omega)) (HLW.out.ext (((Ext.refl (wr.alloc (.cells #[.int .i64 m, .int .i64 (v : Int), .int .i64 17] 31))).drew).alloc (.cells #[] 31))) ?_; intro sg c3 wA R3 hb3 hc3
            refine hK.out _ _ (HK.out _ (((((Ext.refl (wr.alloc (.cells #[.int .i64 m, .int .i64 (v : Int), .int .i64 17] 31))).drew).alloc (.cells #[] 31))).below hb3 hz0)) (fun hHeld => ?_); clear hK K
            (try simp only [List.getElem_toArray, List.getElem_cons_succ, List.getElem_cons_zero, Act.put, List.setIfInBounds_toArray, List.set_cons_zero, List.set_cons_succ])
            have hz3 := hb3.size
            try have X4 := X4.lies hc3 (by first | (simp; done) | (simp; omega))
            refine wpAnyH_ready (rs := [4]) (by kernel_rfl) (by simp) ?_
            refine AllReadyH.cons (o := _) rfl (fun K hK => ?_) AllReadyH.nil
            go_simp
            refine hK.out _ _ (HK.out _ ((((((Ext.refl (wr.alloc (.cells #[.int .i64 m, .int .i64 (v : Int), .int .i64 17] 31))).drew).alloc (.cells #[] 31))).below hb3 hz0).alloc (.cells #[.int .i64 m, .int .i64 (v : Int), .int .i64 17] 31))) (fun hHeld => ?_); clear hK K
            (try simp only [List.getElem_toArray, List.getElem_cons_succ, List.getElem_cons_zero, Act.put, List.setIfInBounds_toArray, List.set_cons_zero, List.set_cons_succ])
            have X4 := box_madeAt (((((Ext.refl (wr.alloc (.cells #[.int .i64 m, .int .i64 (v : Int), .int .i64 17] 31))).drew).alloc (.cells #[] 31))).below hb3 hz0) (wA.heap.size) #[.int .i64 m, .int .i64 (v : Int), .int .i64 17] 31 rfl
            have R3 := R3.ext ((Ext.refl _).alloc (.cells #[.int .i64 m, .int .i64 (v : Int), .int .i64 17] 31))
            refine wpAnyH_ready (rs := [5]) (by kernel_rfl) (by simp) ?_
            refine AllReadyH.cons (o := _) rfl (fun K hK => ?_) AllReadyH.nil
            (first | refine step_append_rv (n := 0 + l.length) (ll := [] ++ l) (s := .tmp 77) (x := .tmp 79) (v := ⟨m, (v : Int), 17⟩) (by rfl) (by rfl) (by rfl) (by rfl) (by simp) X4 R3 (by omega) (by first | (simp at hz3 ⊢; omega) | (simp at hz3; omega)) ?_ | refine step_append_rv (n := l.length) (ll := [] ++ l) (s := .tmp 77) (x := .tmp 79) (v := ⟨m, (v : Int), 17⟩) (by rfl) (by rfl) (by rfl) (by rfl) (by simp) X4 R3 (by omega) (by first | (simp at hz3 ⊢; omega) | (simp at hz3; omega)) ?_); intro g5 c5 wB R5 hb5
            refine hK.out _ _ (HK.out _ ((((((((Ext.refl (wr.alloc (.cells #[.int .i64 m, .int .i64 (v : Int), .int .i64 17] 31))).drew).alloc (.cells #[] 31))).below hb3 hz0).alloc (.cells #[.int .i64 m, .int .i64 (v : Int), .int .i64 17] 31))).below hb5 hz0)) (fun hHeld => ?_); clear hK K
            (try simp only [List.getElem_toArray, List.getElem_cons_succ, List.getElem_cons_zero, Act.put, List.setIfInBounds_toArray, List.set_cons_zero, List.set_cons_succ])
            refine wpAnyH_ready (rs := [7]) (by kernel_rfl) (by simp) ?_
            refine AllReadyH.cons (o := _) rfl (fun K hK => ?_) AllReadyH.nil
            go_simp
            refine (HDR.out _ _ (l.length + 1) _ R5.rst (by simp)).mono ?_; rintro e w7 ⟨rfl, E7⟩
            refine hK.out _ _ (HK.out _ (((((((((Ext.refl (wr.alloc (.cells #[.int .i64 m, .int .i64 (v : Int), .int .i64 17] 31))).drew).alloc (.cells #[] 31))).below hb3 hz0).alloc (.cells #[.int .i64 m, .int .i64 (v : Int), .int .i64 17] 31))).below hb5 hz0).trans E7)) (fun hHeld => ?_); clear hK K
            (try simp only [List.getElem_toArray, List.getElem_cons_succ, List.getElem_cons_zero, Act.put, List.setIfInBounds_toArray, List.set_cons_zero, List.set_cons_succ])
            refine wpAnyH_take (i := 8) (oi := _) (v := ?_) rfl (by kernel_rfl) (by kernel_rfl) (by kernel_rfl) (fun _ _ _ h => h) (Or.inl ⟨by rfl, ?_⟩) (by assumption) ?_
            rotate_left
            · (intro w hSw; (try dsimp only at hSw); (try obtain ⟨hS0, hS1, hS2⟩ := hSw); go_simp; (try with_reducible rfl))
            (try simp only [List.getElem_toArray, List.getElem_cons_succ, List.getElem_cons_zero, Act.put, List.setIfInBounds_toArray, List.set_cons_zero, List.set_cons_succ])
            refine wpAnyH_take (i := 9) (oi := _) (v := ?_) rfl (by kernel_rfl) (by kernel_rfl) (by kernel_rfl) (fun _ _ _ h => h) (Or.inl ⟨by rfl, ?_⟩) (by assumption) ?_
            rotate_left
            · (intro w hSw; (try dsimp only at hSw); (try obtain ⟨hS0, hS1, hS2⟩ := hSw); go_simp; (try with_reducible rfl))
            (try simp only [List.getElem_toArray, List.getElem_cons_succ, List.getElem_cons_zero, Act.put, List.setIfInBounds_toArray, List.set_cons_zero, List.set_cons_succ])
            refine wpAnyH_take (i := 10) (oi := _) (v := ?_) rfl (by kernel_rfl) (by kernel_rfl) (by kernel_rfl) (fun _ _ _ h => h) (Or.inl ⟨by rfl, ?_⟩) (by assumption) ?_
            rotate_left
            · (intro w hSw; (try dsimp only at hSw); (try obtain ⟨hS0, hS1, hS2⟩ := hSw); go_simp; (try with_reducible rfl))
            (try simp only [List.getElem_toArray, List.getElem_cons_succ, List.getElem_cons_zero, Act.put, List.setIfInBounds_toArray, List.set_cons_zero, List.set_cons_succ])
            refine wpAnyH_ready (rs := [11]) (by kernel_rfl) (by simp) ?_
            refine AllReadyH.cons (o := _) rfl (fun K hK => ?_) AllReadyH.nil
            go_simp
            refine hK.out _ _ (HK.out _ (((((((((Ext.refl (wr.alloc (.cells #[.int .i64 m, .int .i64 (v : Int), .int .i64 17] 31))).drew).alloc (.cells #[] 31))).below hb3 hz0).alloc (.cells #[.int .i64 m, .int .i64 (v : Int), .int .i64 17] 31))).below hb5 hz0).trans E7)) (fun hHeld => ?_); clear hK K
            (try simp only [List.getElem_toArray, List.getElem_cons_succ, List.getElem_cons_zero, Act.put, List.setIfInBounds_toArray, List.set_cons_zero, List.set_cons_succ])
            refine wpAnyH_ready (rs := [12]) (by kernel_rfl) (by simp) ?_
            refine AllReadyH.cons (o := _) rfl (fun K hK => ?_) AllReadyH.nil
            go_simp
            refine hK.out _ _ (HK.out _ (((((((((Ext.refl (wr.alloc (.cells #[.int .i64 m, .int .i64 (v : Int), .int .i64 17] 31))).drew).alloc (.cells #[] 31))).below hb3 hz0).alloc (.cells #[.int .i64 m, .int .i64 (v : Int), .int .i64 17] 31))).below hb5 hz0).trans E7)) (fun hHeld => ?_); clear hK K
            (try simp only [List.getElem_toArray, List.getElem_cons_succ, List.getElem_cons_zero, Act.put, List.setIfInBounds_toArray, List.set_cons_zero, List.set_cons_succ])
            refine wpAnyH_done (by kernel_rfl) ?_ _
            have E9 := ((((((((Ext.refl (wr.alloc (.cells #[.int .i64 m, .int .i64 (v : Int), .int .i64 17] 31))).drew).alloc (.cells #[] 31))).below hb3 hz0).alloc (.cells #[.int .i64 m, .int .i64 (v : Int), .int .i64 17] 31))).below hb5 hz0).trans E7
            have XB9 := HXB.out.keep ((Ext.refl wr).alloc (.cells #[.int .i64 m, .int .i64 (v : Int), .int .i64 17] 31) |>.trans E9)
            have cb := XB9.boolAt (j := z) (by have := HBL.out; omega)
            rw [HFR.out] at cb
            have f9 := unfrozen_of_block XB9 z
            have XB10 := XB9.boolSet z true
            have hE9 := (hE.alloc (.cells #[.int .i64 m, .int .i64 (v : Int), .int .i64 17] 31)).trans E9
            have HB10 := hide (show (B.set z true).length = N by rw [List.length_set]; exact HBL.out)
            have hE10 := hE9.setCell (k := w3.heap.size) (o := z) (Nat.le_refl _) (.bool true)
            clear HK
            go_wp2
            go_roundw
            case rel => exact ⟨v + 1, B.set z true, by omega, by go_num, HB10, HS10, XB10, hE10⟩
            case measure => (first | (simp [intOf]; done) | (simp [intOf]; omega))
          refine AllReadyH.cons (o := _) rfl (fun K hK => ?_) AllReadyH.nil
          go_simp
          refine hK.out _ _ (HK.out _ ((((Ext.refl (wr.alloc (.cells #[.int .i64 m, .int .i64 (v : Int), .int .i64 17] 31))).drew).alloc (.cells #[] 31)).alloc (.cells #[.int .i64 m, .int .i64 (v : Int), .int .i64 17] 31))) (fun hHeld => ?_); clear hK K
          (try simp only [List.getElem_toArray, List.getElem_cons_succ, List.getElem_cons_zero, Act.put, List.setIfInBounds_toArray, List.set_cons_zero, List.set_cons_succ])
          have X4 := box_madeAt (((Ext.refl (wr.alloc (.cells #[.int .i64 m, .int .i64 (v : Int), .int .i64 17] 31))).drew).alloc (.cells #[] 31)) (wr.heap.size + 2) #[.int .i64 m, .int .i64 (v : Int), .int .i64 17] 31 (by simp)
          have R0 := R0.ext ((Ext.refl _).alloc (.cells #[.int .i64 m, .int .i64 (v : Int), .int .i64 17] 31))
          refine wpAnyH_ready (rs := [2]) (by kernel_rfl) (by simp) ?_
          refine AllReadyH.cons (o := _) rfl (fun K hK => ?_) AllReadyH.nil
          refine step_append_rvs (n := 0) (m := l.length) (l1 := []) (l := l) (s := .tmp 75) (x := .tmp 76) (by rfl) (by rfl) (by rfl) (by rfl) rfl rfl R0 (by omega) (by omega) (by first | (simp; done) | (simp; omega)) (HLW.out.ext ((((Ext.refl (wr.alloc (.cells #[.int .i64 m, .int .i64 (v : Int), .int .i64 17] 31))).drew).alloc (.cells #[] 31)).alloc (.cells #[.int .i64 m, .int .i64 (v : Int), .int .i64 17] 31))) ?_; intro sg c3 wA R3 hb3 hc3
          refine hK.out _ _ (HK.out _ ((((((Ext.refl (wr.alloc (.cells #[.int .i64 m, .int .i64 (v : Int), .int .i64 17] 31))).drew).alloc (.cells #[] 31)).alloc (.cells #[.int .i64 m, .int .i64 (v : Int), .int .i64 17] 31))).below hb3 hz0)) (fun hHeld => ?_); clear hK K
          (try simp only [List.getElem_toArray, List.getElem_cons_succ, List.getElem_cons_zero, Act.put, List.setIfInBounds_toArray, List.set_cons_zero, List.set_cons_succ])
          have hz3 := hb3.size
          try have X4 := X4.lies hc3 (by first | (simp; done) | (simp; omega))
          refine wpAnyH_ready (rs := [5]) (by kernel_rfl) (by simp) ?_
          refine AllReadyH.cons (o := _) rfl (fun K hK => ?_) AllReadyH.nil
          (first | refine step_append_rv (n := 0 + l.length) (ll := [] ++ l) (s := .tmp 77) (x := .tmp 79) (v := ⟨m, (v : Int), 17⟩) (by rfl) (by rfl) (by rfl) (by rfl) (by simp) X4 R3 (by omega) (by first | (simp at hz3 ⊢; omega) | (simp at hz3; omega)) ?_ | refine step_append_rv (n := l.length) (ll := [] ++ l) (s := .tmp 77) (x := .tmp 79) (v := ⟨m, (v : Int), 17⟩) (by rfl) (by rfl) (by rfl) (by rfl) (by simp) X4 R3 (by omega) (by first | (simp at hz3 ⊢; omega) | (simp at hz3; omega)) ?_); intro g5 c5 wB R5 hb5
          refine hK.out _ _ (HK.out _ ((((((((Ext.refl (wr.alloc (.cells #[.int .i64 m, .int .i64 (v : Int), .int .i64 17] 31))).drew).alloc (.cells #[] 31)).alloc (.cells #[.int .i64 m, .int .i64 (v : Int), .int .i64 17] 31))).below hb3 hz0)).below hb5 hz0)) (fun hHeld => ?_); clear hK K
          (try simp only [List.getElem_toArray, List.getElem_cons_succ, List.getElem_cons_zero, Act.put, List.setIfInBounds_toArray, List.set_cons_zero, List.set_cons_succ])
          refine wpAnyH_ready (rs := [7]) (by kernel_rfl) (by simp) ?_
          refine AllReadyH.cons (o := _) rfl (fun K hK => ?_) AllReadyH.nil
          go_simp
          refine (HDR.out _ _ (l.length + 1) _ R5.rst (by simp)).mono ?_; rintro e w7 ⟨rfl, E7⟩
          refine hK.out _ _ (HK.out _ (((((((((Ext.refl (wr.alloc (.cells #[.int .i64 m, .int .i64 (v : Int), .int .i64 17] 31))).drew).alloc (.cells #[] 31)).alloc (.cells #[.int .i64 m, .int .i64 (v : Int), .int .i64 17] 31))).below hb3 hz0)).below hb5 hz0).trans E7)) (fun hHeld => ?_); clear hK K
          (try simp only [List.getElem_toArray, List.getElem_cons_succ, List.getElem_cons_zero, Act.put, List.setIfInBounds_toArray, List.set_cons_zero, List.set_cons_succ])
          refine wpAnyH_take (i := 8) (oi := _) (v := ?_) rfl (by kernel_rfl) (by kernel_rfl) (by kernel_rfl) (fun _ _ _ h => h) (Or.inl ⟨by rfl, ?_⟩) (by assumption) ?_
          rotate_left
          · (intro w hSw; (try dsimp only at hSw); (try obtain ⟨hS0, hS1, hS2⟩ := hSw); go_simp; (try with_reducible rfl))
          (try simp only [List.getElem_toArray, List.getElem_cons_succ, List.getElem_cons_zero, Act.put, List.setIfInBounds_toArray, List.set_cons_zero, List.set_cons_succ])
          refine wpAnyH_take (i := 9) (oi := _) (v := ?_) rfl (by kernel_rfl) (by kernel_rfl) (by kernel_rfl) (fun _ _ _ h => h) (Or.inl ⟨by rfl, ?_⟩) (by assumption) ?_
          rotate_left
          · (intro w hSw; (try dsimp only at hSw); (try obtain ⟨hS0, hS1, hS2⟩ := hSw); go_simp; (try with_reducible rfl))
          (try simp only [List.getElem_toArray, List.getElem_cons_succ, List.getElem_cons_zero, Act.put, List.setIfInBounds_toArray, List.set_cons_zero, List.set_cons_succ])
          refine wpAnyH_take (i := 10) (oi := _) (v := ?_) rfl (by kernel_rfl) (by kernel_rfl) (by kernel_rfl) (fun _ _ _ h => h) (Or.inl ⟨by rfl, ?_⟩) (by assumption) ?_
          rotate_left
          · (intro w hSw; (try dsimp only at hSw); (try obtain ⟨hS0, hS1, hS2⟩ := hSw); go_simp; (try with_reducible rfl))
          (try simp only [List.getElem_toArray, List.getElem_cons_succ, List.getElem_cons_zero, Act.put, List.setIfInBounds_toArray, List.set_cons_zero, List.set_cons_succ])
          refine wpAnyH_ready (rs := [11]) (by kernel_rfl) (by simp) ?_
          refine AllReadyH.cons (o := _) rfl (fun K hK => ?_) AllReadyH.nil
          go_simp
          refine hK.out _ _ (HK.out _ (((((((((Ext.refl (wr.alloc (.cells #[.int .i64 m, .int .i64 (v : Int), .int .i64 17] 31))).drew).alloc (.cells #[] 31)).alloc (.cells #[.int .i64 m, .int .i64 (v : Int), .int .i64 17] 31))).below hb3 hz0)).below hb5 hz0).trans E7)) (fun hHeld => ?_); clear hK K
          (try simp only [List.getElem_toArray, List.getElem_cons_succ, List.getElem_cons_zero, Act.put, List.setIfInBounds_toArray, List.set_cons_zero, List.set_cons_succ])
          refine wpAnyH_ready (rs := [12]) (by kernel_rfl) (by simp) ?_
          refine AllReadyH.cons (o := _) rfl (fun K hK => ?_) AllReadyH.nil
          go_simp
          refine hK.out _ _ (HK.out _ (((((((((Ext.refl (wr.alloc (.cells #[.int .i64 m, .int .i64 (v : Int), .int .i64 17] 31))).drew).alloc (.cells #[] 31)).alloc (.cells #[.int .i64 m, .int .i64 (v : Int), .int .i64 17] 31))).below hb3 hz0)).below hb5 hz0).trans E7)) (fun hHeld => ?_); clear hK K
          (try simp only [List.getElem_toArray, List.getElem_cons_succ, List.getElem_cons_zero, Act.put, List.setIfInBounds_toArray, List.set_cons_zero, List.set_cons_succ])
          refine wpAnyH_done (by kernel_rfl) ?_ _
          have E9 := ((((((((Ext.refl (wr.alloc (.cells #[.int .i64 m, .int .i64 (v : Int), .int .i64 17] 31))).drew).alloc (.cells #[] 31)).alloc (.cells #[.int .i64 m, .int .i64 (v : Int), .int .i64 17] 31))).below hb3 hz0)).below hb5 hz0).trans E7
          have XB9 := HXB.out.keep ((Ext.refl wr).alloc (.cells #[.int .i64 m, .int .i64 (v : Int), .int .i64 17] 31) |>.trans E9)
          have cb := XB9.boolAt (j := z) (by have := HBL.out; omega)
          rw [HFR.out] at cb
          have f9 := unfrozen_of_block XB9 z
          have XB10 := XB9.boolSet z true
          have hE9 := (hE.alloc (.cells #[.int .i64 m, .int .i64 (v : Int), .int .i64 17] 31)).trans E9
          have HB10 := hide (show (B.set z true).length = N by rw [List.length_set]; exact HBL.out)
          have hE10 := hE9.setCell (k := w3.heap.size) (o := z) (Nat.le_refl _) (.bool true)
          clear HK
          go_wp2
          go_roundw
          case rel => exact ⟨v + 1, B.set z true, by omega, by go_num, HB10, HS10, XB10, hE10⟩
          case measure => (first | (simp [intOf]; done) | (simp [intOf]; omega))
        refine AllReadyH.cons (o := _) rfl (fun K hK => ?_) AllReadyH.nil
        go_simp
        refine hK.out _ _ (HK.out _ (((Ext.refl (wr.alloc (.cells #[.int .i64 m, .int .i64 (v : Int), .int .i64 17] 31))).drew).alloc (.cells #[.int .i64 m, .int .i64 (v : Int), .int .i64 17] 31))) (fun hHeld => ?_); clear hK K
        (try simp only [List.getElem_toArray, List.getElem_cons_succ, List.getElem_cons_zero, Act.put, List.setIfInBounds_toArray, List.set_cons_zero, List.set_cons_succ])
        have X4 := box_madeAt ((Ext.refl (wr.alloc (.cells #[.int .i64 m, .int .i64 (v : Int), .int .i64 17] 31))).drew) (wr.heap.size + 1) #[.int .i64 m, .int .i64 (v : Int), .int .i64 17] 31 (by simp)
        refine wpAnyH_ready (rs := [0]) (by kernel_rfl) (by simp) ?_
        refine AllReadyH.cons (o := _) rfl (fun K hK => ?_) AllReadyH.nil
        go_simp
        refine hK.out _ _ (HK.out _ ((((Ext.refl (wr.alloc (.cells #[.int .i64 m, .int .i64 (v : Int), .int .i64 17] 31))).drew).alloc (.cells #[.int .i64 m, .int .i64 (v : Int), .int .i64 17] 31)).alloc (.cells #[] 31))) (fun hHeld => ?_); clear hK K
        (try simp only [List.getElem_toArray, List.getElem_cons_succ, List.getElem_cons_zero, Act.put, List.setIfInBounds_toArray, List.set_cons_zero, List.set_cons_succ])
        have R0 := rowV_madeAt (((Ext.refl (wr.alloc (.cells #[.int .i64 m, .int .i64 (v : Int), .int .i64 17] 31))).drew).alloc (.cells #[.int .i64 m, .int .i64 (v : Int), .int .i64 17] 31)) (wr.heap.size + 2) (by simp)
        have hz0 : (wr.alloc (.cells #[.int .i64 m, .int .i64 (v : Int), .int .i64 17] 31)).heap.size ≤ wr.heap.size + 2 := by simp
        have X4 := X4.push (.cells #[] 31)
        refine wpAnyH_ready (rs := [2]) (by kernel_rfl) (by simp) ?_
        refine AllReadyH.cons (o := _) rfl (fun K hK => ?_) AllReadyH.nil
        refine step_append_rvs (n := 0) (m := l.length) (l1 := []) (l := l) (s := .tmp 75) (x := .tmp 76) (by rfl) (by rfl) (by rfl) (by rfl) rfl rfl R0 (by omega) (by omega) (by first | (simp; done) | (simp; omega)) (HLW.out.ext ((((Ext.refl (wr.alloc (.cells #[.int .i64 m, .int .i64 (v : Int), .int .i64 17] 31))).drew).alloc (.cells #[.int .i64 m, .int .i64 (v : Int), .int .i64 17] 31)).alloc (.cells #[] 31))) ?_; intro sg c3 wA R3 hb3 hc3
        refine hK.out _ _ (HK.out _ ((((((Ext.refl (wr.alloc (.cells #[.int .i64 m, .int .i64 (v : Int), .int .i64 17] 31))).drew).alloc (.cells #[.int .i64 m, .int .i64 (v : Int), .int .i64 17] 31)).alloc (.cells #[] 31))).below hb3 hz0)) (fun hHeld => ?_); clear hK K
        (try simp only [List.getElem_toArray, List.getElem_cons_succ, List.getElem_cons_zero, Act.put, List.setIfInBounds_toArray, List.set_cons_zero, List.set_cons_succ])
        have hz3 := hb3.size
        try have X4 := X4.lies hc3 (by first | (simp; done) | (simp; omega))
        refine wpAnyH_ready (rs := [5]) (by kernel_rfl) (by simp) ?_
        refine AllReadyH.cons (o := _) rfl (fun K hK => ?_) AllReadyH.nil
        (first | refine step_append_rv (n := 0 + l.length) (ll := [] ++ l) (s := .tmp 77) (x := .tmp 79) (v := ⟨m, (v : Int), 17⟩) (by rfl) (by rfl) (by rfl) (by rfl) (by simp) X4 R3 (by omega) (by first | (simp at hz3 ⊢; omega) | (simp at hz3; omega)) ?_ | refine step_append_rv (n := l.length) (ll := [] ++ l) (s := .tmp 77) (x := .tmp 79) (v := ⟨m, (v : Int), 17⟩) (by rfl) (by rfl) (by rfl) (by rfl) (by simp) X4 R3 (by omega) (by first | (simp at hz3 ⊢; omega) | (simp at hz3; omega)) ?_); intro g5 c5 wB R5 hb5
        refine hK.out _ _ (HK.out _ ((((((((Ext.refl (wr.alloc (.cells #[.int .i64 m, .int .i64 (v : Int), .int .i64 17] 31))).drew).alloc (.cells #[.int .i64 m, .int .i64 (v : Int), .int .i64 17] 31)).alloc (.cells #[] 31))).below hb3 hz0)).below hb5 hz0)) (fun hHeld => ?_); clear hK K
        (try simp only [List.getElem_toArray, List.getElem_cons_succ, List.getElem_cons_zero, Act.put, List.setIfInBounds_toArray, List.set_cons_zero, List.set_cons_succ])
        refine wpAnyH_ready (rs := [7]) (by kernel_rfl) (by simp) ?_
        refine AllReadyH.cons (o := _) rfl (fun K hK => ?_) AllReadyH.nil
        go_simp
        refine (HDR.out _ _ (l.length + 1) _ R5.rst (by simp)).mono ?_; rintro e w7 ⟨rfl, E7⟩
        refine hK.out _ _ (HK.out _ (((((((((Ext.refl (wr.alloc (.cells #[.int .i64 m, .int .i64 (v : Int), .int .i64 17] 31))).drew).alloc (.cells #[.int .i64 m, .int .i64 (v : Int), .int .i64 17] 31)).alloc (.cells #[] 31))).below hb3 hz0)).below hb5 hz0).trans E7)) (fun hHeld => ?_); clear hK K
        (try simp only [List.getElem_toArray, List.getElem_cons_succ, List.getElem_cons_zero, Act.put, List.setIfInBounds_toArray, List.set_cons_zero, List.set_cons_succ])
        refine wpAnyH_take (i := 8) (oi := _) (v := ?_) rfl (by kernel_rfl) (by kernel_rfl) (by kernel_rfl) (fun _ _ _ h => h) (Or.inl ⟨by rfl, ?_⟩) (by assumption) ?_
        rotate_left
        · (intro w hSw; (try dsimp only at hSw); (try obtain ⟨hS0, hS1, hS2⟩ := hSw); go_simp; (try with_reducible rfl))
        (try simp only [List.getElem_toArray, List.getElem_cons_succ, List.getElem_cons_zero, Act.put, List.setIfInBounds_toArray, List.set_cons_zero, List.set_cons_succ])
        refine wpAnyH_take (i := 9) (oi := _) (v := ?_) rfl (by kernel_rfl) (by kernel_rfl) (by kernel_rfl) (fun _ _ _ h => h) (Or.inl ⟨by rfl, ?_⟩) (by assumption) ?_
        rotate_left
        · (intro w hSw; (try dsimp only at hSw); (try obtain ⟨hS0, hS1, hS2⟩ := hSw); go_simp; (try with_reducible rfl))
        (try simp only [List.getElem_toArray, List.getElem_cons_succ, List.getElem_cons_zero, Act.put, List.setIfInBounds_toArray, List.set_cons_zero, List.set_cons_succ])
        refine wpAnyH_take (i := 10) (oi := _) (v := ?_) rfl (by kernel_rfl) (by kernel_rfl) (by kernel_rfl) (fun _ _ _ h => h) (Or.inl ⟨by rfl, ?_⟩) (by assumption) ?_
        rotate_left
        · (intro w hSw; (try dsimp only at hSw); (try obtain ⟨hS0, hS1, hS2⟩ := hSw); go_simp; (try with_reducible rfl))
        (try simp only [List.getElem_toArray, List.getElem_cons_succ, List.getElem_cons_zero, Act.put, List.setIfInBounds_toArray, List.set_cons_zero, List.set_cons_succ])
        refine wpAnyH_ready (rs := [11]) (by kernel_rfl) (by simp) ?_
        refine AllReadyH.cons (o := _) rfl (fun K hK => ?_) AllReadyH.nil
        go_simp
        refine hK.out _ _ (HK.out _ (((((((((Ext.refl (wr.alloc (.cells #[.int .i64 m, .int .i64 (v : Int), .int .i64 17] 31))).drew).alloc (.cells #[.int .i64 m, .int .i64 (v : Int), .int .i64 17] 31)).alloc (.cells #[] 31))).below hb3 hz0)).below hb5 hz0).trans E7)) (fun hHeld => ?_); clear hK K
        (try simp only [List.getElem_toArray, List.getElem_cons_succ, List.getElem_cons_zero, Act.put, List.setIfInBounds_toArray, List.set_cons_zero, List.set_cons_succ])
        refine wpAnyH_ready (rs := [12]) (by kernel_rfl) (by simp) ?_
        refine AllReadyH.cons (o := _) rfl (fun K hK => ?_) AllReadyH.nil
        go_simp
        refine hK.out _ _ (HK.out _ (((((((((Ext.refl (wr.alloc (.cells #[.int .i64 m, .int .i64 (v : Int), .int .i64 17] 31))).drew).alloc (.cells #[.int .i64 m, .int .i64 (v : Int), .int .i64 17] 31)).alloc (.cells #[] 31))).below hb3 hz0)).below hb5 hz0).trans E7)) (fun hHeld => ?_); clear hK K
        (try simp only [List.getElem_toArray, List.getElem_cons_succ, List.getElem_cons_zero, Act.put, List.setIfInBounds_toArray, List.set_cons_zero, List.set_cons_succ])
        refine wpAnyH_done (by kernel_rfl) ?_ _
        have E9 := ((((((((Ext.refl (wr.alloc (.cells #[.int .i64 m, .int .i64 (v : Int), .int .i64 17] 31))).drew).alloc (.cells #[.int .i64 m, .int .i64 (v : Int), .int .i64 17] 31)).alloc (.cells #[] 31))).below hb3 hz0)).below hb5 hz0).trans E7
        have XB9 := HXB.out.keep ((Ext.refl wr).alloc (.cells #[.int .i64 m, .int .i64 (v : Int), .int .i64 17] 31) |>.trans E9)
        have cb := XB9.boolAt (j := z) (by have := HBL.out; omega)
        rw [HFR.out] at cb
        have f9 := unfrozen_of_block XB9 z
        have XB10 := XB9.boolSet z true
        have hE9 := (hE.alloc (.cells #[.int .i64 m, .int .i64 (v : Int), .int .i64 17] 31)).trans E9
        have HB10 := hide (show (B.set z true).length = N by rw [List.length_set]; exact HBL.out)
        have hE10 := hE9.setCell (k := w3.heap.size) (o := z) (Nat.le_refl _) (.bool true)
        clear HK
        go_wp2
        go_roundw
        case rel => exact ⟨v + 1, B.set z true, by omega, by go_num, HB10, HS10, XB10, hE10⟩
        case measure => (first | (simp [intOf]; done) | (simp [intOf]; omega))
      · have hki : decide ((v : Int) < (N : Int)) = false := decide_eq_false (by omega)
        go_wp2
        go_ret
        exact ⟨rfl, E1.trans (E13.trans hE)⟩
  · have hs0 : dwS l N < 0 := by omega
    obtain ⟨S, hS⟩ : ∃ S, S = dwS l N := ⟨_, rfl⟩; rw [← hS] at HP1 HP2 h0 hs0
    obtain ⟨C, hC⟩ : ∃ C, C = dwC l N := ⟨_, rfl⟩; rw [← hC] at HP1 HP2
    clear hS hC
    have hss : ((S : Int) != S) = false := by simp
    have hcc : ((C : Int) != C) = false := by simp
    have hse : ((S : Int) == S) = true := by simp
    have hce : ((C : Int) == C) = true := by simp
    go_wp2_with fail; refine (HP1.out _ (Ext.refl _)).mono ?_; rintro e w2 ⟨rfl, E2⟩
    go_wp2_with fail; refine (HP2.out _ E2).mono ?_; rintro e w3 ⟨rfl, E3⟩
    go_wp2
    go_ret
    exact ⟨rfl, E1.trans (E2.trans E3)⟩
end Go.Proofs.Ytgmhodmgbhpdaad
