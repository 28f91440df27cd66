/- Texts of numbers: rows of bytes, and the contracts of the program's decimal and ShowMoney and of the model's. -/
import Derived.Test.YtgmhodmgbhpdaadDigits
import Derived.Test.YtgmhodmgbhpdaadExt
import Derived.Laws.BytesString
namespace Go.Proofs.Ytgmhodmgbhpdaad
open Go.ChangeShapes Go.WideShapes Go.ChangeAt Go.RowKit Go.Joins
set_option linter.unusedVariables false

/-- bytes as a text -/
def tx (l : List Int) : ByteArray := ⟨(l.map fun n => UInt8.ofNat n.toNat).toArray⟩
theorem tx_push (l : List Int) : ∀ (r : List Int), (l.foldl (fun (r : ByteArray) n => r.push (UInt8.ofNat n.toNat)) (tx r)) = tx (r ++ l) := by
  induction l with
  | nil => intro r; rw [List.append_nil]; rfl
  | cons x l ih =>
    intro r
    have e : (tx r).push (UInt8.ofNat x.toNat) = tx (r ++ [x]) := by
      unfold tx ByteArray.push; simp
    rw [List.foldl_cons, e, ih, List.append_assoc]; rfl
theorem tx_all (l : List Int) : l.foldl (fun (r : ByteArray) n => r.push (UInt8.ofNat n.toNat)) ByteArray.empty = tx l := tx_push l []
theorem tx_append (a b : List Int) : tx a ++ tx b = tx (a ++ b) := by
  apply ByteArray.ext
  simp [tx]
/-- the text of a number -/
def nb (n : Nat) : List Int := (rdig n).reverse.map fun d => 48 + d
theorem nb_big (n : Nat) (h : 10 ≤ n) : nb n = nb (n / 10) ++ nb (n % 10) := by
  unfold nb
  rw [rdig_big n h, rdig_small (n % 10) (by omega)]; simp
theorem nb_ten : ∀ n : Nat, n < 10 → tx (nb n) = (⟨#[48, 49, 50, 51, 52, 53, 54, 55, 56, 57]⟩ : ByteArray).extract n (n + 1) := by
  intro n hn
  unfold nb
  rw [rdig_small n hn]
  match n, hn with
  | 0, _ => rfl
  | 1, _ => rfl
  | 2, _ => rfl
  | 3, _ => rfl
  | 4, _ => rfl
  | 5, _ => rfl
  | 6, _ => rfl
  | 7, _ => rfl
  | 8, _ => rfl
  | 9, _ => rfl
theorem Try.infoU8 : (Try.prog.info? 5).map (fun i => (i.zero, i.size, i.bytes)) = some (some (.int .u8 0), 1, 1) := by kernel_rfl
/-- bytes that a call has made -/
def RowY (base : Nat) (w : World) (sa : Option Addr) (cap : Nat) (l : List Int) : Prop := w.ownsRow base 5 1 (.slice sa l.length cap) l.length (l.map (Value.int .u8))
theorem RowY.own {base : Nat} {w : World} {sa : Option Addr} {cap : Nat} {l : List Int} (h : RowY base w sa cap l) : w.ownsRow base 5 1 (.slice sa l.length cap) l.length (l.map (Value.int .u8)) := h
theorem RowY.nil (base : Nat) (w : World) : RowY base w none 0 [] := World.ownsRow_nil _ _ _ _
theorem RowY.form {base : Nat} {w : World} {sa : Option Addr} {cap : Nat} {l : List Int} (h : RowY base w sa cap l) :
    l = [] ∨ ∃ g cur, sa = some ⟨g, 0, none⟩ ∧ base ≤ g ∧ w.heap[g]? = some (.cells cur 5 (0, 0)) ∧ ∀ i, i < l.length → cur[i]? = some (.int .u8 (l.getD i 0)) := by
  obtain ⟨h1, h2⟩ := h
  rcases h2 with ⟨h2, h3⟩ | ⟨g, c, cur, h2, h3, h4, h5, h6, h7, h8⟩
  · exact .inl (List.length_eq_zero_iff.1 h3)
  · simp only [Value.slice.injEq] at h2
    obtain ⟨rfl, _, rfl⟩ := h2
    refine .inr ⟨g, cur, rfl, h3, h4, fun i hi => ?_⟩
    have e : (cur.toList.take (l.length * 1))[i]? = (l.map (Value.int .u8))[i]? := by rw [h8]
    rw [List.getElem?_take_of_lt (by omega), List.getElem?_map, List.getElem?_eq_getElem hi] at e
    rw [List.getD_eq_getElem?_getD, List.getElem?_eq_getElem hi]
    simpa using e
theorem RowY.grown {base n : Nat} {w : World} {v : Value} {l : List Int} {x : Int} (h : w.ownsRow base 5 1 v n (l.map (Value.int .u8) ++ [.int .u8 x])) (hn : n = l.length + 1) :
    ∃ g cap, v = .slice (some ⟨g, 0, none⟩) (l.length + 1) cap ∧ RowY base w (some ⟨g, 0, none⟩) cap (l ++ [x]) := by
  subst hn
  obtain ⟨g, cap, rfl⟩ := ownsRow_form h (by omega)
  refine ⟨g, cap, rfl, ?_⟩
  show w.ownsRow base 5 1 (.slice (some ⟨g, 0, none⟩) (l ++ [x]).length cap) (l ++ [x]).length ((l ++ [x]).map (Value.int .u8))
  rw [List.map_append, List.length_append]; exact h
theorem append_byte {ops : Array Oper} {rest : List Oper} {o : Oper} {a : Act} {Q : Exit → Act → World → Prop} (hgd : o.guard = none) (s x : Operand)
    (ho : o.op = .call { callee := .builtin .append, args := #[s, x], argTypes := #[22, 22] }) (base : Nat) (w1 : World) (sa : Option Addr) (cap : Nat) (l : List Int) (v : Int) (T : TypeId)
    (hs : a.eval s = .slice sa l.length cap) (hx : a.eval x = .slice (some ⟨w1.heap.size, 0, none⟩) 1 1) (R : RowY base w1 sa cap l) (hl : l.length ≤ 2000000) (hb : base ≤ w1.heap.size)
    (h : ∀ g cap' w', RowY base w' (some ⟨g, 0, none⟩) cap' (l ++ [v]) → Below base w1 w' → wpList Try.prog ops Q rest (a.put o.dst (.slice (some ⟨g, 0, none⟩) (l.length + 1) cap')) w') :
    wpList Try.prog ops Q (o :: rest) a (w1.alloc (.cells #[.int .u8 v] T)) := by
  obtain ⟨i0, hi, hz0, hz1, hz2⟩ := info_parts Try.infoU8
  have hA : Below base w1 (w1.alloc (.cells #[.int .u8 v] T)) := (Below.refl _ _).alloc hb _
  refine wpList_append_own _ hgd s x 22 ho base 5 i0 (.int .u8 0) 1 1 Try.underlying22 hi hz0 hz1 hz2 rfl (by decide) _ _ _ hs (R.own.alloc _) ⟨w1.heap.size, 0, none⟩ 1 1 [.int .u8 v] hx rfl (one_news _ _ _) (by simp [Value.oneCell']) (by unfold maxLen; omega) (by omega) (by first | omega | (simp; done) | (simp; omega)) ?_
  intro v' w2 hown hgrow hnil
  obtain ⟨g, cap', rfl, hR⟩ := RowY.grown hown rfl
  refine h g cap' w2 hR (hA.grown hgrow (by first | omega | (simp; done) | (simp; omega)) fun k hk => ?_)
  exact (World.ownsRow.lt R.own k hk).1

theorem conv_row {base : Nat} {w : World} {sa : Option Addr} {cap : Nat} {l : List Int} (R : RowY base w sa cap l) (h0 : 0 < l.length) : (convert 22 9 (.slice sa l.length cap)).run Try.prog w = .ok (.string (tx l)) w := by
  rcases R.form with h | ⟨g, cur, rfl, h2, h3, h4⟩
  · rw [h] at h0; simp at h0
  rw [run_convert_bytes_string w 22 9 5 _ _ _ Try.underlying22 Try.underlying5 Try.underlying9]
  have hl := run_loadCells_list (P := Try.prog) w ⟨g, 0, none⟩ (l.map (Value.int .u8)) (fun j v hj => by
    rw [List.getElem?_map] at hj
    by_cases hjl : j < l.length
    · rw [List.getElem?_eq_getElem hjl] at hj
      have h5 := h4 j hjl
      rw [List.getD_eq_getElem?_getD, List.getElem?_eq_getElem hjl] at h5
      have e : (⟨g, 0, none⟩ : Addr).add j = ⟨g, j, none⟩ := by simp [Addr.add]; omega
      have h6 := cell_of_block h3 j
      rw [e, h6, h5]; simpa using hj
    · rw [List.getElem?_eq_none (by omega)] at hj; simp at hj)
  rw [List.length_map] at hl
  rw [run_bytesToString w _ _ _ l hl, tx_all]
theorem tx_size (l : List Int) : (tx l).size = l.length := by simp [tx, ByteArray.size]
theorem nb_len (f n : Nat) (h : n < 10 ^ (f + 1)) : (nb n).length ≤ f + 1 := by
  unfold nb; rw [List.length_map, List.length_reverse]; exact rdig_len f n h
set_option maxHeartbeats 1000000 in
theorem number_small (n : Nat) (w : World) (hn' : n < 10) : Calls Try.prog 52 #[.int .i64 n] w (Same (.string (tx (nb n))) w) := by
  have HT := hide (nb_ten n hn')
  have hni : (n : Int) < 10 := by omega
  have hw1 : IntKind.i64.wrap ((n : Int) + 1) = (n : Int) + 1 := IntWalk.i64_in _ (by omega)
  have hk0 : (0 : Int) ≤ (n : Int) := by omega
  have hk1 : (n : Int) ≤ (n : Int) + 1 := by omega
  have hk2 : (n : Int) + 1 ≤ 10 := by omega
  go_enter Try.func52, Try.ntmps52
  go_wp2
  go_ret
  exact ⟨by rw [HT.out]; rfl, rfl⟩
set_option maxHeartbeats 1000000 in
theorem specNumber (f : Nat) : ∀ (n : Nat) (w : World), n < 10 ^ (f + 1) → f ≤ 11 → Calls Try.prog 52 #[.int .i64 n] w (Same (.string (tx (nb n))) w) := by
  induction f with
  | zero =>
    intro n w hn _
    exact number_small n w (by simpa using hn)
  | succ f ih =>
    intro n w hn hf
    by_cases h10 : n < 10
    · exact number_small n w h10
    have hq : n / 10 < 10 ^ (f + 1) := by rw [Nat.pow_succ] at hn; omega
    have H1 := hide (fun w => ih (n / 10) w hq (by omega))
    have H2 := hide (fun w => number_small (n % 10) w (by omega))
    have HT := hide (show tx (nb n) = tx (nb (n / 10)) ++ tx (nb (n % 10)) by rw [tx_append, ← nb_big n (by omega)])
    have hbig : n < 1000000000000000 := by
      have : (10 : Nat) ^ (f + 1 + 1) ≤ 10 ^ 13 := Nat.pow_le_pow_right (by omega) (by omega)
      omega
    have hni : ¬ (n : Int) < 10 := by omega
    have d1 : (n : Int).tdiv 10 = ((n / 10 : Nat) : Int) := by rw [Int.tdiv_eq_ediv_of_nonneg (by omega), Int.natCast_ediv]; rfl
    have d2 : (n : Int) / 10 = ((n / 10 : Nat) : Int) := by rw [Int.natCast_ediv]; rfl
    have m1 : (n : Int).tmod 10 = ((n % 10 : Nat) : Int) := by rw [Int.tmod_eq_emod_of_nonneg (by omega), Int.natCast_emod]; rfl
    have m2 : (n : Int) % 10 = ((n % 10 : Nat) : Int) := by rw [Int.natCast_emod]; rfl
    have hsz : ¬ 9223372036854775807 < (tx (nb (n / 10))).size + (tx (nb (n % 10))).size := by
      rw [tx_size, tx_size]
      have g1 := nb_len f (n / 10) hq
      have g2 := nb_len 0 (n % 10) (by omega)
      omega
    obtain ⟨q, hqq⟩ : ∃ q, q = n / 10 := ⟨_, rfl⟩; rw [← hqq] at H1 HT d1 d2 hsz
    obtain ⟨m, hmm⟩ : ∃ m, m = n % 10 := ⟨_, rfl⟩; rw [← hmm] at H2 HT m1 m2 hsz
    obtain ⟨T, hTT⟩ : ∃ T, T = tx (nb n) := ⟨_, rfl⟩; rw [← hTT] at HT ⊢
    obtain ⟨A, hA⟩ : ∃ A, A = tx (nb q) := ⟨_, rfl⟩; rw [← hA] at H1 HT hsz
    obtain ⟨B, hB⟩ : ∃ B, B = tx (nb m) := ⟨_, rfl⟩; rw [← hB] at H2 HT hsz
    clear ih hn hf hq hqq hmm hTT hA hB
    go_enter Try.func52, Try.ntmps52
    go_wp2_with fail; refine (H1.out _).mono ?_; rintro e w' ⟨rfl, rfl⟩
    go_wp2_with fail; refine (H2.out _).mono ?_; rintro e w' ⟨rfl, rfl⟩
    go_wp2
    go_ret
    exact ⟨by rw [HT.out]; rfl, rfl⟩
theorem rdig_take {D : List Int} {t : Nat} (h : t < D.length) {d : Int} (e : d = D.getD (D.length - 1 - t) 0) : (D.reverse.take t).map (fun d => 48 + d) ++ [48 + d] = (D.reverse.take (t + 1)).map (fun d => 48 + d) := by
  have h2 : t < D.reverse.length := by rw [List.length_reverse]; exact h
  rw [List.take_succ_eq_append_getElem h2, List.map_append, List.getElem_reverse, e, List.getD_eq_getElem?_getD, List.getElem?_eq_getElem (by omega)]; rfl
set_option maxHeartbeats 1000000 in
theorem implDecimal (n : Nat) (w : World) (hn : n < 10 ^ 12) : Calls Try.prog 50 #[.int .i64 n] w (Ret (.string (tx (nb n))) w) := by
  have hlen := rdig_len 11 n hn
  have hpos : 0 < (rdig n).length := List.length_pos_iff.2 (rdig_ne n)
  have HIN := hide (rdig_in n)
  have HD := hide (digitsOf_any n w hn)
  have HNB := hide (show nb n = (rdig n).reverse.map (fun d => 48 + d) from rfl)
  obtain ⟨D, hD⟩ : ∃ D, D = rdig n := ⟨_, rfl⟩; rw [← hD] at HIN HD hlen HNB hpos
  obtain ⟨V, hV⟩ : ∃ V, V = nb n := ⟨_, rfl⟩; rw [← hV] at HNB ⊢
  clear hD hV hn
  go_enter Try.func50, Try.ntmps50
  go_wp2_with fail; refine (HD.out).mono ?_; rintro e w1 ⟨s1, c1, rfl, R1, hb1⟩
  have E1 := Ext.of hb1
  have HLD := hide R1.lst
  have hwl : IntKind.i64.wrap ((D.length : Int) - 1) = (D.length : Int) - 1 := IntWalk.i64_in _ (by omega)
  clear hb1 R1
  go_wp2
  go_loopw [4, 5] (fun u i wr => ∃ (z : Int) (t : Nat) (sb : Option Addr) (cb : Nat) (o : List Int), -1 ≤ z ∧ z < (D.length : Int) ∧ i = .int .i64 z ∧ u = .slice sb o.length cb ∧ o.length ≤ 12 ∧ Hid (o.length = t) ∧ Hid (z + (t : Int) + 1 = (D.length : Int)) ∧ Hid (o = (D.reverse.take t).map (fun d => 48 + d)) ∧ RowY w1.heap.size wr sb cb o ∧ Ext w1 wr) (fun _ i _ => (intOf i + 1).toNat)
  case atStart => exact ⟨(D.length : Int) - 1, 0, none, 0, [], by omega, by omega, rfl, rfl, by simp, (show ([] : List Int).length = 0 from rfl), (show (D.length : Int) - 1 + ((0 : Nat) : Int) + 1 = (D.length : Int) by omega), (show [] = (D.reverse.take 0).map (fun d => 48 + d) from rfl), RowY.nil _ _, Ext.refl _⟩
  case round =>
    obtain ⟨z, t, sb, cb, o, z0, z1, rfl, rfl, ho, HOT, HZ, HO, hR, hE⟩ := hrel
    by_cases hz : 0 ≤ z
    · obtain ⟨m, rfl⟩ := Int.eq_ofNat_of_zero_le hz
      have hm : m < D.length := by omega
      have htl : t < D.length := by have := HZ.out; omega
      obtain ⟨g, off, rfl, hg, q0⟩ := (HLD.out.ext hE).at hm
      have hd9 := HIN.out (D.getD m 0) (by rw [List.getD_eq_getElem?_getD, List.getElem?_eq_getElem hm]; exact List.getElem_mem hm)
      have HS := hide (show o ++ [48 + D.getD m 0] = (D.reverse.take (t + 1)).map (fun d => 48 + d) by rw [HO.out]; exact rdig_take htl (by rw [show D.length - 1 - t = m by have := HZ.out; omega]))
      obtain ⟨d, hd⟩ : ∃ d, d = D.getD m 0 := ⟨_, rfl⟩; rw [← hd] at q0 hd9 HS
      have hwi : IntKind.i64.wrap (48 + d) = 48 + d := IntWalk.i64_in _ (by omega)
      have hw8 : IntKind.u8.wrap (48 + d) = 48 + d := by
        rcases (show d = 0 ∨ d = 1 ∨ d = 2 ∨ d = 3 ∨ d = 4 ∨ d = 5 ∨ d = 6 ∨ d = 7 ∨ d = 8 ∨ d = 9 by omega) with rfl | rfl | rfl | rfl | rfl | rfl | rfl | rfl | rfl | rfl <;> rfl
      have hws : IntKind.i64.wrap ((m : Int) - 1) = (m : Int) - 1 := IntWalk.i64_in _ (by omega)
      have HP := hide (show o.length + 1 ≤ 12 by have := HOT.out; have := HZ.out; omega)
      have HT9 := hide (show (o ++ [48 + d]).length = t + 1 by rw [List.length_append, HOT.out]; rfl)
      have HZ9 := hide (show (m : Int) - 1 + ((t + 1 : Nat) : Int) + 1 = (D.length : Int) by have := HZ.out; omega)
      clear hd htl
      go_wp2_with (first | (at_builtin; refine append_byte rfl (.tmp 15) (.tmp 22) rfl w1.heap.size wr sb cb o (48 + d) _ rfl rfl hR (by omega) hE.size ?_; intro g3 c3 w3 R3 hb3; have hE3 := hide (hE.below hb3 (Nat.le_refl _)); clear hb3))
      go_wp2
      go_roundw
      case rel => exact ⟨(m : Int) - 1, t + 1, _, _, o ++ [48 + d], by omega, by omega, by first | rfl | (simp [hws]), by rw [List.length_append]; rfl, by rw [List.length_append]; exact HP.out, HT9, HZ9, HS, R3, hE3.out⟩
      case measure => (first | (simp [intOf]; done) | (simp [intOf]; omega))
    · have hzd : decide (0 ≤ z) = false := decide_eq_false hz
      obtain rfl : o = V := by
        have h1 : t = D.reverse.length := by rw [List.length_reverse]; have := HZ.out; omega
        rw [HO.out, h1, List.take_length, HNB.out]
      have hcv := conv_row hR (by have := HOT.out; have := HZ.out; omega)
      clear HO HNB
      go_wp2
      go_ret
      exact ⟨rfl, E1.trans hE⟩
end Go.Proofs.Ytgmhodmgbhpdaad
