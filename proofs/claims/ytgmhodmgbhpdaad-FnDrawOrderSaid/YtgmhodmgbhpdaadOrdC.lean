/- Chapter 3: orders of numbers: the model's contracts. -/
import Derived.Test.YtgmhodmgbhpdaadOrdB
namespace Go.Proofs.Ytgmhodmgbhpdaad
open Go.ChangeShapes Go.WideShapes Go.ChangeAt Go.RowKit Go.Joins Go.Sort
set_option linter.unusedVariables false

theorem Row.blk {base : Nat} {w w' : World} {b cap : Nat} {l : List Int} (h : Row base w (some ⟨b, 0, none⟩) cap l) (e : w'.heap[b]? = w.heap[b]?) : Row base w' (some ⟨b, 0, none⟩) cap l := by
  obtain ⟨h1, h2⟩ := h
  refine ⟨h1, ?_⟩
  rcases h2 with h2 | ⟨x, c, cur, h2, h3, h4, h5⟩
  · exact .inl h2
  · have : x = b := by simp only [Value.slice.injEq, Option.some.injEq, Addr.mk.injEq] at h2; exact h2.1.1.symm
    subst this
    exact .inr ⟨x, c, cur, h2, h3, e.trans h4, h5⟩
theorem numsO_succ (n : Nat) : numsO n ++ [(n : Int)] = numsO (n + 1) := by simp [numsO, List.range_succ]
theorem len_snocZ (o : List Int) (x : Int) : o.length + 1 = (o ++ [x]).length := by simp
set_option maxRecDepth 100000 in
set_option maxHeartbeats 400000 in
theorem specOrdL (n m : Nat) (w : World) (hm8 : m ≤ 8) (hm1 : 1 ≤ m) (hnf : n < fac m) : Calls Try.prog 42 #[.int .i64 n, .int .i64 m] w (RetList (oLs m n m) w) := by
  have HST := hide (fun c hc => @oSt_step m n hm8 hnf c hc)
  have HFA := hide (fun c hc => (@oSt_facts m n hm8 hnf c hc).1)
  have HLS := hide (fun c => oLs_len m n c)
  have HNX : Hid (∀ c, oLs m n (c + 1) = oLs m n c ++ [oEl m n c]) := hide fun c => rfl
  have HR0 : Hid (n = (oSt m n 0).2) := hide rfl
  have hn4 : n ≤ 40320 := Nat.le_trans (Nat.le_of_lt hnf) (fac_bd m hm8)
  have HM0 := hide (show numsO m = mems (oSt m n 0).1 from (mems_nums (n := m) (by omega)).symm)
  have HNL := hide (fun c => numsO_len c)
  have HNS := hide (fun c => numsO_succ c)
  have HO0 : Hid ([] = oLs m n 0) := hide rfl
  clear hnf
  obtain ⟨B, hB⟩ : ∃ B, B = w.heap.size := ⟨_, rfl⟩
  have hBle : B ≤ w.heap.size := Nat.le_of_eq hB
  have hBge : w.heap.size ≤ B := Nat.le_of_eq hB.symm
  have R0 : Row B (w.alloc (.cells #[] 3)) (some ⟨w.heap.size, 0, none⟩) 0 [] := Row.madeAt B w.heap.size w rfl hBle
  have EE0 := (Ext.refl w).alloc (.cells #[] 3)
  clear hB
  go_enter Try.func42, Try.ntmps42
  go_wp2
  go_loopw [5, 6] (fun v i wr => ∃ (c b c2 : Nat) (o : List Int), c ≤ m ∧ i = .int .i64 c ∧ v = .slice (some ⟨b, 0, none⟩) c c2 ∧ Hid (o = numsO c) ∧ Row B wr (some ⟨b, 0, none⟩) c2 o ∧ Ext w wr) (fun _ i _ => m - (intOf i).toNat)
  case atStart => exact ⟨0, _, 0, [], Nat.zero_le _, rfl, rfl, rfl, R0, EE0⟩
  case round =>
    clear R0 EE0
    obtain ⟨c, b, c2, o, hc, rfl, rfl, HO, hR, hE⟩ := hrel
    have HOl := hide (show o.length = c by rw [HO.out]; exact HNL.out c)
    by_cases hlt : c < m
    · have HS := hide (show o ++ [(c : Int)] = numsO (c + 1) by rw [HO.out]; exact HNS.out c)
      have hBz : B ≤ wr.heap.size := Nat.le_trans hBle hE.size
      go_wp2_with (first | (at_builtin; refine append_int_atN rfl (.tmp 17) (.tmp 19) rfl B wr b c c2 o (c : Int) _ rfl rfl HOl.out hR (by omega) hBz ?_; intro g3 cap3 w3 R3 hb3 hg3 hk3))
      have E3 := hE.below hb3 (Nat.le_trans hBge (Nat.le_refl _))
      clear hb3 hg3 hk3
      go_wp2
      go_roundw
      case rel => exact ⟨c + 1, g3, cap3, o ++ [(c : Int)], by omega, by go_num, rfl, HS, R3, E3⟩
      case measure => simp [intOf]; omega
    · obtain rfl : c = m := by omega
      have hb := hR.inside b 0 rfl
      have hR2 := hR.ext ((Ext.refl wr).alloc (.cells #[] 3))
      have RO := Row.madeAt B wr.heap.size wr rfl (Nat.le_trans hBle hE.size)
      have hE2 := hE.alloc (.cells #[] 3)
      have HOm := hide (show o = mems (oSt c n 0).1 by rw [HO.out]; exact HM0.out)
      clear hR hE hlt HO HM0
      have hbne : b ≠ wr.heap.size := by omega
      go_wp2
      go_loopw [0, 5, 7, 8] (fun a v u i wx => ∃ (t d r bl cl bo co : Nat) (L O : List Int), t + d = c ∧ i = .int .i64 d ∧ a = .int .i64 r ∧ v = .slice (some ⟨bl, 0, none⟩) d cl ∧ u = .slice (some ⟨bo, 0, none⟩) t co ∧ Hid (L = mems (oSt c n t).1) ∧ Hid (L.length = d) ∧ Hid (O = oLs c n t) ∧ Hid (O.length = t) ∧ Hid (r = (oSt c n t).2) ∧ r ≤ 40320 ∧ Row B wx (some ⟨bl, 0, none⟩) cl L ∧ Row B wx (some ⟨bo, 0, none⟩) co O ∧ bl ≠ bo ∧ Ext w wx) (fun _ _ _ i _ => (intOf i).toNat)
      case atStart => exact ⟨0, c, n, b, c2, wr.heap.size, 0, o, [], by omega, rfl, rfl, rfl, rfl, HOm, HOl, HO0, rfl, HR0, hn4, hR2, RO, hbne, hE2⟩
      case round =>
        clear hR2 RO hbne hE2 HOm HOl hb HO0 HR0
        obtain ⟨t, d, r, bl, cl, bo, co, L, O, htd, rfl, rfl, rfl, rfl, HL, HLl, HOO, HOl, HR, hr, hR, hRO, hne, hE⟩ := hrel
        by_cases hd0 : 0 < d
        · have htc : t < c := by omega
          have hdc : c - 1 - t = d - 1 := by omega
          have hdx : (d : Int) - 1 ≤ 8 := by omega
          have hdy : -10 ≤ (d : Int) - 1 := by omega
          have hdn : ((d : Int) - 1).toNat = d - 1 := by omega
          have hd8 : d - 1 ≤ 8 := by omega
          have hfb := fac_bd (d - 1) hd8
          have hfp := fac_pos (d - 1)
          have HFO := hide (fun w => specFac ((d : Int) - 1) w hdy hdx)
          have HFV := hide (show fI ((d : Int) - 1) = (fac (d - 1) : Int) by unfold fI; rw [hdn])
          rw [HFV.out] at HFO
          obtain ⟨k, x, hk, hkm, hx, hex, hxm, _, _, hs2, hs3⟩ := HST.out t htc
          rw [hdc, ← HR.out] at hk hs3
          rw [← HL.out] at hx hs2
          have HO2 := hide (show O ++ [(x : Int)] = oLs c n (t + 1) by rw [HNX.out, HOO.out, hex])
          have HS2 := hide hs2.symm
          have HS3 := hide hs3.symm
          have HX := hide hx
          clear hex hs2 hs3 hx
          obtain ⟨f, hf0⟩ : ∃ f, f = fac (d - 1) := ⟨_, rfl⟩; rw [← hf0] at hk HS3 HFO hfp hfb
          have hdk : ((r / f : Nat) : Int) = (k : Int) := congrArg _ hk
          have HDV2 := hide (show (r : Int) / (f : Int) = (k : Int) from (Int.natCast_ediv r f).symm.trans hdk)
          have HDV := hide (show (r : Int).tdiv (f : Int) = (k : Int) from (Int.tdiv_eq_ediv_of_nonneg (Int.natCast_nonneg _)).trans HDV2.out)
          have hrm : r % f ≤ 40320 := Nat.le_trans (Nat.mod_le _ _) hr
          obtain ⟨r2, hr20⟩ : ∃ r2, r2 = r % f := ⟨_, rfl⟩; rw [← hr20] at HS3 hrm
          have HMV := hide (show (r : Int) % (f : Int) = (r2 : Int) by rw [hr20]; exact (Int.natCast_emod r f).symm)
          have HMV2 := hide (show (r : Int).tmod (f : Int) = (r2 : Int) from (Int.tmod_eq_emod_of_nonneg (Int.natCast_nonneg _)).trans HMV.out)
          have hkd : k < d := by omega
          have hkL : k < L.length := by have := HLl.out; omega
          clear hf0 hdk hk hr20 HFV hdc hdx hdy hdn
          obtain ⟨bl', e, q1, q2, _, hcl⟩ := hR.spot (by omega)
          cases e
          have ck := hcl k hkL
          rw [HX.out] at ck
          clear hcl
          obtain ⟨N, hN⟩ : ∃ N, N = mems (oSt c n (t + 1)).1 := ⟨_, rfl⟩; rw [← hN] at HS2
          have HN := hide hN; clear hN
          have HTL := hide (show (L.take k).length = k by rw [List.length_take]; omega)
          have HDL := hide (show (L.drop (k + 1)).length = d - (k + 1) by rw [List.length_drop, HLl.out])
          clear HST HFA HL HOO HLS HNX HNL HNS HX
          have hdv := HDV.out
          have hdv2 := HDV2.out
          have hmv := HMV.out
          have hmv2 := HMV2.out
          have hn1 : (f : Int) ≠ 0 := by omega
          have hn2 : f ≠ 0 := by omega
          have hob := hRO.inside bo 0 rfl
          have hBz : B ≤ wr.heap.size := Nat.le_trans hBle hE.size
          have hcapL := hR.cap
          go_wp2_with fail
          refine (HFO.out _).mono ?_
          rintro e w' ⟨rfl, rfl⟩
          go_wp2_with fail
          refine (HFO.out _).mono ?_
          rintro e w' ⟨rfl, rfl⟩
          have z1 : (k : Int) + 1 ≤ (d : Int) := by omega
          have hcapd : d ≤ cl := by have := HLl.out; omega
          have z2 : (d : Int) ≤ (cl : Int) := by omega
          have z3 : (k : Int) + 1 ≤ (cl : Int) := by omega
          have z4 : k + 1 ≤ cl := by omega
          have z5 : (k : Int) ≤ (cl : Int) := by omega
          have z6 : k ≤ cl := by omega
          by_cases hak2 : k + 1 < d
          · have hncl : ¬ cl = k + 1 := by omega
            go_wp2_with (first | (at_builtin; refine append_int_atN rfl (.tmp 37) (.tmp 42) rfl B wr bo t co O (x : Int) _ rfl rfl HOl.out hRO (by omega) hBz ?_; intro g6 c6 w6 R6 hb6 hg6 hk6))
            have hsz6 := hb6.size
            have hRL6 := hR.blk (hk6 bl q2 hne)
            have hne6 : bl ≠ g6 := by rcases hg6 with h | h <;> omega
            have E6 := hE.below hb6 hBge
            have hz6 : B ≤ w6.heap.size := by omega
            have hbl6 : bl < w6.heap.size := by omega
            have hg6s := (R6.inside g6 0 rfl).2
            clear hb6 hk6 hg6 hdv hdv2 hmv hmv2 hn1 hn2 hR hRO ck hob
            have CC := copyInts_all (some ⟨bl, k + 1, none⟩) (cl - (k + 1)) (d - (k + 1)) (L.drop (k + 1)) w6 (by simpa using hRL6.lst.drop (k + 1)) HDL.out (by omega)
            have HT := hide (hRL6.take (k := k) (by omega))
            obtain ⟨dd, hdd⟩ : ∃ dd, dd = L.drop (k + 1) := ⟨_, rfl⟩; rw [← hdd] at CC HDL HS2
            obtain ⟨uu, huu⟩ : ∃ uu, uu = L.take k := ⟨_, rfl⟩; rw [← huu] at HT HTL HS2
            have hd0' : 0 < dd.length := by have := HDL.out; omega
            have hd1 : dd.length ≤ 10 := by have := HDL.out; omega
            clear hdd huu hRL6
            go_wp2_with fail; refine (CC).mono ?_; rintro e w5 ⟨s5, c5, rfl, R5, hb5⟩
            have E5 := Ext.of hb5
            obtain ⟨b5, rfl, x2, x3, _, x5⟩ := R5.spot hd0'
            have HX5 := hide x5
            have R65 := R6.ext E5
            have hz5 := E5.size
            have hg65 : g6 < w5.heap.size := by omega
            clear CC x5 R5 hb5 R6
            go_wp2_with (first | (at_builtin; refine append_list_at rfl (.tmp 51) (.tmp 52) rfl B w5 bl k dd.length cl c5 b5 0 uu dd rfl rfl HTL.out rfl (HT.out.ext E5) (by omega) (by omega) hd0' (by omega) (fun i hi => by rw [Nat.zero_add]; exact HX5.out i hi) ?_; intro g7 c7 w7 R7 hb7 hg7 hk7))
            have E7 := (E6.trans E5).below hb7 hBge
            have R67 := R65.blk (hk7 g6 hg65 (Ne.symm hne6))
            have hne7 : g7 ≠ g6 := by rcases hg7 with h | h <;> omega
            have HLN := hide (show (uu ++ dd).length = d - 1 by rw [List.length_append, HTL.out]; have := HDL.out; omega)
            have hlen7 : k + dd.length = d - 1 := by have := HDL.out; omega
            have HNN := hide (show uu ++ dd = mems (oSt c n (t + 1)).1 by rw [HS2.out, HN.out])
            have HO3 := hide (show (O ++ [(x : Int)]).length = t + 1 by rw [List.length_append, HOl.out]; rfl)
            clear hb7 hg7 hk7 R65
            go_wp2
            go_roundw
            case rel => exact ⟨t + 1, d - 1, r2, g7, c7, g6, c6, uu ++ dd, O ++ [(x : Int)], by omega, by go_num, rfl, by rw [hlen7], rfl, HNN, HLN, HO2, HO3, HS3, hrm, R7, R67, hne7, E7⟩
            case measure => simp [intOf]; omega
          · have hkd1 : d = k + 1 := by omega
            have HNE := hide (show L.take k = mems (oSt c n (t + 1)).1 by rw [← HN.out, ← HS2.out, List.drop_of_length_le (by have := HLl.out; omega), List.append_nil])
            have HO3 := hide (show (O ++ [(x : Int)]).length = t + 1 by rw [List.length_append, HOl.out]; rfl)
            have HLN := hide (show (L.take k).length = d - 1 by rw [HTL.out]; omega)
            subst hkd1
            by_cases hca : cl = k + 1
            · subst hca
              go_wp2_with (first | (at_builtin; refine append_int_atN rfl (.tmp 37) (.tmp 42) rfl B wr bo t co O (x : Int) _ rfl rfl HOl.out hRO (by omega) hBz ?_; intro g6 c6 w6 R6 hb6 hg6 hk6))
              have hsz6 := hb6.size
              have hRL6 := hR.blk (hk6 bl q2 hne)
              have hne6 : bl ≠ g6 := by rcases hg6 with h | h <;> omega
              have E6 := hE.below hb6 hBge
              have hz6 : B ≤ w6.heap.size := by omega
              have hbl6 : bl < w6.heap.size := by omega
              have hg6s := (R6.inside g6 0 rfl).2
              clear hb6 hk6 hg6 hdv hdv2 hmv hmv2 hn1 hn2 hR hRO ck hob
              have CC := fun wz sx cx => copyInts_all sx cx 0 [] wz (.inl rfl) rfl (by omega)
              have HT := hide (hRL6.take (k := k) (by omega))
              clear hRL6
              go_wp2_with fail; refine (CC _ _ _).mono ?_; rintro e w5 ⟨s5, c5, rfl, R5, hb5⟩
              have E5 := Ext.of hb5
              clear CC hb5 R5
              go_wp2_with (first | (at_builtin; refine append_none rfl (.tmp 51) (.tmp 52) rfl _ (some ⟨bl, 0, none⟩) s5 k (k + 1) c5 rfl rfl (by omega) ?_))
              go_wp2
              go_roundw
              case rel => exact ⟨t + 1, k, r2, bl, k + 1, g6, c6, L.take k, O ++ [(x : Int)], by omega, by go_num, rfl, rfl, rfl, HNE, HTL, HO2, HO3, HS3, hrm, HT.out.ext E5, R6.ext E5, hne6, E6.trans E5⟩
              case measure => simp [intOf]
            · go_wp2_with (first | (at_builtin; refine append_int_atN rfl (.tmp 37) (.tmp 42) rfl B wr bo t co O (x : Int) _ rfl rfl HOl.out hRO (by omega) hBz ?_; intro g6 c6 w6 R6 hb6 hg6 hk6))
              have hsz6 := hb6.size
              have hRL6 := hR.blk (hk6 bl q2 hne)
              have hne6 : bl ≠ g6 := by rcases hg6 with h | h <;> omega
              have E6 := hE.below hb6 hBge
              have hz6 : B ≤ w6.heap.size := by omega
              have hbl6 : bl < w6.heap.size := by omega
              have hg6s := (R6.inside g6 0 rfl).2
              clear hb6 hk6 hg6 hdv hdv2 hmv hmv2 hn1 hn2 hR hRO ck hob
              have CC := fun wz sx cx => copyInts_all sx cx 0 [] wz (.inl rfl) rfl (by omega)
              have HT := hide (hRL6.take (k := k) (by omega))
              clear hRL6
              go_wp2_with fail; refine (CC _ _ _).mono ?_; rintro e w5 ⟨s5, c5, rfl, R5, hb5⟩
              have E5 := Ext.of hb5
              clear CC hb5 R5
              go_wp2_with (first | (at_builtin; refine append_none rfl (.tmp 51) (.tmp 52) rfl _ (some ⟨bl, 0, none⟩) s5 k cl c5 rfl rfl (by omega) ?_))
              go_wp2
              go_roundw
              case rel => exact ⟨t + 1, k, r2, bl, cl, g6, c6, L.take k, O ++ [(x : Int)], by omega, by go_num, rfl, rfl, rfl, HNE, HTL, HO2, HO3, HS3, hrm, HT.out.ext E5, R6.ext E5, hne6, E6.trans E5⟩
              case measure => simp [intOf]
        · have hd00 : d = 0 := by omega
          have htc : t = c := by omega
          have HG := hide (show oLs c n c = O by rw [HOO.out, htc])
          have HL2 := hide (show O.length = c by rw [HOl.out, htc])
          have HD0 := hide hd00; clear hd00
          have HTC := hide htc; clear htc
          go_wp2
          go_ret
          exact ⟨some ⟨bo, 0, none⟩, co, by rw [HLS.out, ← HTC.out]; rfl, by rw [HG.out]; exact hRO.le hBge, hE⟩
end Go.Proofs.Ytgmhodmgbhpdaad
