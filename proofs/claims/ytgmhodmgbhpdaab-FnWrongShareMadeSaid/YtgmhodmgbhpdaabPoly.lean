/- Chapter 4: polynomials by rests, shares: plain numbers. A polynomial with n coefficients that is 0 at n different places is 0 everywhere (roots), so there is one polynomial through shares (gt_uniq). -/
import Derived.Test.YtgmhodmgbhpdaabRows
namespace Go.Proofs.Ytgmhodmgbhpdaab
set_option linter.unusedVariables false


/-- a polynomial's value, exactly -/
def ev : List Int → Int → Int
  | [], _ => 0
  | c :: t, x => c + x * ev t x
/-- its rest -/
def pv (c : List Int) (x : Int) : Int := ev c x % 251
theorem pv_bd (c : List Int) (x : Int) : 0 ≤ pv c x ∧ pv c x ≤ 250 := by unfold pv; omega
theorem pv_nil (x : Int) : pv [] x = 0 := rfl
theorem pv_dv (c : List Int) (x : Int) : (251 : Int) ∣ ev c x - pv c x := by unfold pv; omega
theorem pv_step (c : Int) (t : List Int) (x : Int) : (pv t x * x + c) % 251 = pv (c :: t) x := by
  obtain ⟨k, hk⟩ := pv_dv t x
  show _ = (c + x * ev t x) % 251
  have : c + x * ev t x = pv t x * x + c + 251 * (k * x) := by
    have : ev t x = pv t x + 251 * k := by omega
    rw [this]; grind
  rw [this]; omega
theorem drop_at (l : List Int) (k : Nat) (h : k < l.length) : l.drop k = l.getD k 0 :: l.drop (k + 1) := by
  rw [List.drop_eq_getElem_cons h, List.getD_eq_getElem?_getD, List.getElem?_eq_getElem h]; rfl
theorem pv_drop (l : List Int) (k : Nat) (x : Int) (h : k < l.length) : (pv (l.drop (k + 1)) x * x + l.getD k 0) % 251 = pv (l.drop k) x := by
  rw [drop_at l k h]; exact pv_step _ _ _

/-- the number by which a rest is multiplied to 1 -/
def pwn (n : Nat) : Nat → Nat
  | 0 => 1
  | k + 1 => pwn n k * n % 251
theorem pwn_one : ∀ n, n < 251 → n ≠ 0 → n * pwn n 249 % 251 = 1 := by decide +kernel
theorem pwn_lt (n k : Nat) : pwn n k < 251 := by
  cases k with
  | zero => unfold pwn; omega
  | succ k => unfold pwn; omega
def iv (n : Int) : Int := (pwn n.toNat 249 : Nat)
theorem iv_bd (n : Int) : 0 ≤ iv n ∧ iv n ≤ 250 := by unfold iv; have := pwn_lt n.toNat 249; omega
theorem iv_one {n : Int} (h0 : 1 ≤ n) (h1 : n ≤ 250) : n * iv n % 251 = 1 := by
  obtain ⟨m, rfl⟩ := Int.eq_ofNat_of_zero_le (show 0 ≤ n by omega)
  have := pwn_one m (by omega) (by omega)
  unfold iv; rw [Int.toNat_natCast]
  omega
theorem iv_pos {n : Int} (h0 : 1 ≤ n) (h1 : n ≤ 250) : 1 ≤ iv n := by
  have h := iv_one h0 h1
  have hb := iv_bd n
  by_cases e : iv n = 0
  · rw [e] at h; omega
  · omega
/-- no two rests that are not 0 multiply to 0 -/
theorem dv_mul {a b : Int} (h : (251 : Int) ∣ a * b) (ha : ¬ (251 : Int) ∣ a) : (251 : Int) ∣ b := by
  have h1 := iv_one (n := a % 251) (by omega) (by omega)
  obtain ⟨k, hk⟩ := h
  obtain ⟨m, hm⟩ : (251 : Int) ∣ a - a % 251 := by omega
  obtain ⟨j, hj⟩ : (251 : Int) ∣ a % 251 * iv (a % 251) - 1 := by omega
  generalize iv (a % 251) = i at *
  generalize a % 251 = r at *
  refine ⟨i * k - i * m * b - j * b, ?_⟩
  grind
theorem iv_uniq {n k : Int} (h0 : 1 ≤ n) (h1 : n ≤ 250) (k0 : 0 ≤ k) (k1 : k ≤ 250) (h : n * k % 251 = 1) : k = iv n := by
  have h2 := iv_one h0 h1
  have hb := iv_bd n
  have h3 : (251 : Int) ∣ n * (k - iv n) := by rw [Int.mul_sub]; omega
  have h4 := dv_mul h3 (by omega)
  omega
theorem iv_iv {n : Int} (h0 : 1 ≤ n) (h1 : n ≤ 250) : iv (iv n) = n := by
  have h := iv_one h0 h1
  have hb := iv_bd n
  have hp := iv_pos h0 h1
  exact (iv_uniq hp hb.2 (by omega) h1 (by rw [Int.mul_comm]; exact h)).symm

/-- division by x less r -/
def quo : List Int → Int → List Int
  | [], _ => []
  | [_], _ => []
  | _ :: c :: t, r => ev (c :: t) r :: quo (c :: t) r
theorem quo_len (c : List Int) (r : Int) : (quo c r).length = c.length - 1 := by
  induction c with
  | nil => rfl
  | cons a t ih =>
    cases t with
    | nil => rfl
    | cons b t => show (quo (b :: t) r).length + 1 = _; rw [ih]; simp
theorem quo_ev (c : List Int) (r x : Int) : ev c x = (x - r) * ev (quo c r) x + ev c r := by
  induction c with
  | nil => simp [ev, quo]
  | cons a t ih =>
    cases t with
    | nil => simp [ev, quo]
    | cons b t =>
      show a + x * ev (b :: t) x = (x - r) * (ev (b :: t) r + x * ev (quo (b :: t) r) x) + (a + r * ev (b :: t) r)
      rw [ih]; grind
theorem quo_all (c : List Int) (r : Int) (h0 : (251 : Int) ∣ ev c r) (h : ∀ a ∈ quo c r, (251 : Int) ∣ a) : ∀ a ∈ c, (251 : Int) ∣ a := by
  induction c with
  | nil => simp
  | cons a t ih =>
    cases t with
    | nil => intro b hb; simp at hb; subst hb; simpa [ev] using h0
    | cons b t =>
      have h1 : (251 : Int) ∣ ev (b :: t) r := h _ (List.mem_cons_self ..)
      have h2 := ih h1 (fun a ha => h a (List.mem_cons_of_mem _ ha))
      intro z hz
      rcases List.mem_cons.1 hz with rfl | hz
      · obtain ⟨k, hk⟩ := h1
        obtain ⟨m, hm⟩ := h0
        refine ⟨m - r * k, ?_⟩
        have : z + r * ev (b :: t) r = 251 * m := hm
        rw [hk] at this; grind
      · exact h2 z hz
/-- different rests -/
def dif (xs : List Int) : Prop := xs.Pairwise fun a b => ¬ (251 : Int) ∣ a - b
theorem roots : ∀ (n : Nat) (c xs : List Int), c.length = n → n ≤ xs.length → dif xs → (∀ x ∈ xs, (251 : Int) ∣ ev c x) → ∀ a ∈ c, (251 : Int) ∣ a := by
  intro n
  induction n with
  | zero => intro c xs hc _ _ _ a ha; rw [List.length_eq_zero_iff.1 hc] at ha; simp at ha
  | succ n ih =>
    intro c xs hc hl hd h
    cases xs with
    | nil => simp at hl
    | cons r xs =>
      have hr := h r (List.mem_cons_self ..)
      have hd2 := List.pairwise_cons.1 hd
      refine quo_all c r hr (ih (quo c r) xs (by rw [quo_len]; omega) (by simp at hl; omega) hd2.2 fun x hx => ?_)
      have h1 := h x (List.mem_cons_of_mem _ hx)
      have h2 := quo_ev c r x
      have h3 : (251 : Int) ∣ (x - r) * ev (quo c r) x := by omega
      exact dv_mul h3 (by have := hd2.1 x hx; omega)
/-- numbers that are rests -/
def rg (q : List Int) : Prop := ∀ x ∈ q, 0 ≤ x ∧ x ≤ 250
theorem ev_sub (a : List Int) : ∀ (b : List Int) (x : Int), a.length = b.length → ev (List.zipWith (fun u v => u - v) a b) x = ev a x - ev b x := by
  induction a with
  | nil => intro b x h; cases b with
    | nil => simp [ev]
    | cons => simp at h
  | cons u a ih => intro b x h; cases b with
    | nil => simp at h
    | cons v b =>
      show u - v + x * ev (List.zipWith (fun u v => u - v) a b) x = _
      rw [ih b x (by simpa using h)]; show _ = u + x * ev a x - (v + x * ev b x); grind
theorem sub_all (a : List Int) : ∀ (b : List Int), a.length = b.length → rg a → rg b → (∀ z ∈ List.zipWith (fun u v => u - v) a b, (251 : Int) ∣ z) → a = b := by
  induction a with
  | nil => intro b h _ _ _; cases b with
    | nil => rfl
    | cons => simp at h
  | cons u a ih => intro b h ra rb hz; cases b with
    | nil => simp at h
    | cons v b =>
      have h1 := ra u (List.mem_cons_self ..)
      have h2 := rb v (List.mem_cons_self ..)
      have h3 := hz (u - v) (List.mem_cons_self ..)
      have e : u = v := by omega
      rw [e, ih b (by simpa using h) (fun x hx => ra x (List.mem_cons_of_mem _ hx)) (fun x hx => rb x (List.mem_cons_of_mem _ hx)) (fun z h => hz z (List.mem_cons_of_mem _ h))]
/-- there is one polynomial through different places -/
theorem uniq {xs a b : List Int} (h : a.length = b.length) (hl : a.length ≤ xs.length) (hd : dif xs) (ra : rg a) (rb : rg b) (he : ∀ x ∈ xs, (251 : Int) ∣ ev a x - ev b x) : a = b := by
  refine sub_all a b h ra rb (roots a.length _ xs (by rw [List.length_zipWith]; omega) hl hd fun x hx => ?_)
  rw [ev_sub a b x h]; exact he x hx
theorem ev_append (a b : List Int) (x : Int) : ev (a ++ b) x = ev a x + x ^ a.length * ev b x := by
  induction a with
  | nil => simp [ev]
  | cons u a ih =>
    show u + x * ev (a ++ b) x = u + x * ev a x + x ^ (a.length + 1) * ev b x
    rw [ih, Int.pow_succ]; grind
theorem ev_zeros (n : Nat) (x : Int) : ev (List.replicate n 0) x = 0 := by
  induction n with
  | zero => rfl
  | succ n ih => show 0 + x * ev (List.replicate n 0) x = 0; rw [ih]; simp
theorem ev_pad (a : List Int) (n : Nat) (x : Int) : ev (a ++ List.replicate n 0) x = ev a x := by rw [ev_append, ev_zeros]; simp
theorem rg_pad {a : List Int} (h : rg a) (n : Nat) : rg (a ++ List.replicate n 0) := fun x hx => by
  rcases List.mem_append.1 hx with hx | hx
  · exact h x hx
  · rw [(List.mem_replicate.1 hx).2]; omega
theorem rg_zeros (n : Nat) : rg (List.replicate n 0) := fun x hx => by rw [(List.mem_replicate.1 hx).2]; omega
theorem rg_set {m : List Int} (h : rg m) (i : Nat) {v : Int} (h0 : 0 ≤ v) (h1 : v ≤ 250) : rg (m.set i v) := fun x hx => by
  rcases List.mem_or_eq_of_mem_set hx with hx | hx
  · exact h x hx
  · omega
theorem rg_at {m : List Int} (h : rg m) (i : Nat) : 0 ≤ m.getD i 0 ∧ m.getD i 0 ≤ 250 := by
  rw [List.getD_eq_getElem?_getD]
  by_cases hi : i < m.length
  · rw [List.getElem?_eq_getElem hi]; exact h _ (List.getElem_mem _)
  · rw [List.getElem?_eq_none (by omega)]; simp
theorem ev_set (m : List Int) : ∀ (i : Nat) (v t : Int), i < m.length → ev (m.set i v) t = ev m t + (v - m.getD i 0) * t ^ i := by
  induction m with
  | nil => intro i v t h; simp at h
  | cons a m ih =>
    intro i v t h
    cases i with
    | zero => show v + t * ev m t = a + t * ev m t + (v - a) * t ^ 0; simp; grind
    | succ i =>
      show a + t * ev (m.set i v) t = a + t * ev m t + (v - m.getD i 0) * t ^ (i + 1)
      rw [ih i v t (by simpa using h), Int.pow_succ]; grind
theorem ev_take (c : List Int) : ∀ (i : Nat) (t : Int), i < c.length → ev (c.take (i + 1)) t = ev (c.take i) t + c.getD i 0 * t ^ i := by
  induction c with
  | nil => intro i t h; simp at h
  | cons a c ih =>
    intro i t h
    cases i with
    | zero => simp [ev]
    | succ i =>
      show a + t * ev (c.take (i + 1)) t = a + t * ev (c.take i) t + c.getD i 0 * t ^ (i + 1)
      rw [ih i t (by simpa using h), Int.pow_succ]; grind
/-- a multiple of a polynomial is added, one coefficient after the other -/
def accm (m c b : List Int) (f : Int) (k : Nat) : Prop := ∀ t, (251 : Int) ∣ ev m t - (ev c t + f * ev (b.take k) t)
theorem acc_zero (c b : List Int) (f : Int) : accm c c b f 0 := fun t => by simp [ev]
theorem acc_step {m c b : List Int} {f : Int} {k : Nat} (h : accm m c b f k) (hb : k < b.length) (hm : k < m.length) : accm (m.set k ((m.getD k 0 + f * b.getD k 0) % 251)) c b f (k + 1) := by
  intro t
  rw [ev_set m k _ t hm, ev_take b k t hb]
  obtain ⟨j, hj⟩ := h t
  obtain ⟨i, hi⟩ : (251 : Int) ∣ m.getD k 0 + f * b.getD k 0 - (m.getD k 0 + f * b.getD k 0) % 251 := by omega
  generalize (m.getD k 0 + f * b.getD k 0) % 251 = v at *
  generalize m.getD k 0 = y at *
  generalize b.getD k 0 = z at *
  refine ⟨j - i * t ^ k, ?_⟩
  grind
theorem acc_end {m c b : List Int} {f : Int} (h : accm m c b f b.length) (t : Int) : (251 : Int) ∣ ev m t - (ev c t + f * ev b t) := by
  have := h t; rwa [List.take_length] at this
/-- a polynomial is multiplied with the place less x, one coefficient after the other -/
def mulx (m c : List Int) (x : Int) (k : Nat) : Prop := ∀ t, (251 : Int) ∣ ev m t - (t - x) * ev (c.take k) t
theorem mulx_zero (n : Nat) (c : List Int) (x : Int) : mulx (List.replicate n 0) c x 0 := fun t => by rw [ev_zeros]; simp [ev]
theorem get_set {m : List Int} {i j : Nat} {v : Int} (h : i ≠ j) : (m.set i v).getD j 0 = m.getD j 0 := by
  rw [List.getD_eq_getElem?_getD, List.getD_eq_getElem?_getD, List.getElem?_set_ne h]
theorem mulx_impl {m c : List Int} {x : Int} {k : Nat} (h : mulx m c x k) (hc : k < c.length) (hm : k + 1 < m.length) (hz : m.getD (k + 1) 0 = 0) :
    mulx ((m.set k ((m.getD k 0 + c.getD k 0 * (251 - x)) % 251)).set (k + 1) (c.getD k 0)) c x (k + 1) := by
  intro t
  rw [ev_set _ (k + 1) _ t (by rw [List.length_set]; omega), get_set (by omega), ev_set m k _ t (by omega), ev_take c k t hc, hz, Int.pow_succ]
  obtain ⟨j, hj⟩ := h t
  obtain ⟨i, hi⟩ : (251 : Int) ∣ m.getD k 0 + c.getD k 0 * (251 - x) - (m.getD k 0 + c.getD k 0 * (251 - x)) % 251 := by omega
  generalize (m.getD k 0 + c.getD k 0 * (251 - x)) % 251 = v at *
  generalize m.getD k 0 = y at *
  generalize c.getD k 0 = z at *
  refine ⟨j - i * t ^ k + z * t ^ k, ?_⟩
  grind
theorem mulx_spec {m c : List Int} {x : Int} {k : Nat} (h : mulx m c x k) (hc : k < c.length) (hm : k + 1 < m.length) :
    mulx ((m.set (k + 1) ((m.getD (k + 1) 0 + c.getD k 0) % 251)).set k ((m.getD k 0 + c.getD k 0 * (251 - x)) % 251)) c x (k + 1) := by
  intro t
  rw [ev_set _ k _ t (by rw [List.length_set]; omega), get_set (by omega), ev_set m (k + 1) _ t hm, ev_take c k t hc, Int.pow_succ]
  obtain ⟨j, hj⟩ := h t
  obtain ⟨i, hi⟩ : (251 : Int) ∣ m.getD k 0 + c.getD k 0 * (251 - x) - (m.getD k 0 + c.getD k 0 * (251 - x)) % 251 := by omega
  obtain ⟨i2, hi2⟩ : (251 : Int) ∣ m.getD (k + 1) 0 + c.getD k 0 - (m.getD (k + 1) 0 + c.getD k 0) % 251 := by omega
  generalize (m.getD k 0 + c.getD k 0 * (251 - x)) % 251 = v at *
  generalize (m.getD (k + 1) 0 + c.getD k 0) % 251 = v2 at *
  generalize m.getD (k + 1) 0 = y2 at *
  generalize m.getD k 0 = y at *
  generalize c.getD k 0 = z at *
  refine ⟨j - i * t ^ k + z * t ^ k - i2 * (t ^ k * t), ?_⟩
  grind
theorem mulx_end {m c : List Int} {x : Int} (h : mulx m c x c.length) (t : Int) : (251 : Int) ∣ ev m t - (t - x) * ev c t := by
  have := h t; rwa [List.take_length] at this
/-- a share: its place, its value -/
structure Sh where
  x : Int
  y : Int
def Sh.z : Sh := ⟨0, 0⟩
def xsL (ll : List Sh) : List Int := ll.map Sh.x
def ysL (ll : List Sh) : List Int := ll.map Sh.y
theorem xsL_len (ll : List Sh) : (xsL ll).length = ll.length := by simp [xsL]
theorem ysL_len (ll : List Sh) : (ysL ll).length = ll.length := by simp [ysL]
theorem xsL_at (ll : List Sh) (i : Nat) : (xsL ll).getD i 0 = (ll.getD i Sh.z).x := by
  by_cases h : i < ll.length
  · simp [xsL, List.getD_eq_getElem?_getD, h]
  · simp [xsL, List.getD_eq_getElem?_getD, h, Sh.z]
theorem ysL_at (ll : List Sh) (i : Nat) : (ysL ll).getD i 0 = (ll.getD i Sh.z).y := by
  by_cases h : i < ll.length
  · simp [ysL, List.getD_eq_getElem?_getD, h]
  · simp [ysL, List.getD_eq_getElem?_getD, h, Sh.z]
theorem sh_mem {ll : List Sh} {i : Nat} (h : i < ll.length) : ll.getD i Sh.z ∈ ll := by
  rw [List.getD_eq_getElem?_getD, List.getElem?_eq_getElem h]; exact List.getElem_mem _
theorem mem_sh {ll : List Sh} {s : Sh} (h : s ∈ ll) : ∃ i, i < ll.length ∧ ll.getD i Sh.z = s := by
  obtain ⟨i, hi, e⟩ := List.mem_iff_getElem.1 h
  exact ⟨i, hi, by rw [List.getD_eq_getElem?_getD, List.getElem?_eq_getElem hi]; exact e⟩
/-- shares whose numbers are rests, at different places, one of which may be 0 -/
def gd (ll : List Sh) : Prop := rg (xsL ll) ∧ rg (ysL ll) ∧ (xsL ll).Nodup
theorem dif_of {xs : List Int} (h : rg xs) (hn : xs.Nodup) : dif xs := by
  unfold dif
  refine List.Pairwise.imp_of_mem ?_ hn
  intro a b ha hb hab
  have h1 := h a ha
  have h2 := h b hb
  omega
theorem gd.x {ll : List Sh} (h : gd ll) (i : Nat) : 0 ≤ (ll.getD i Sh.z).x ∧ (ll.getD i Sh.z).x ≤ 250 := by rw [← xsL_at]; exact rg_at h.1 i
theorem gd.y {ll : List Sh} (h : gd ll) (i : Nat) : 0 ≤ (ll.getD i Sh.z).y ∧ (ll.getD i Sh.z).y ≤ 250 := by rw [← ysL_at]; exact rg_at h.2.1 i
theorem nodup_at {l : List Int} (h : l.Nodup) {i j : Nat} (hi : i < l.length) (hj : j < l.length) (e : l.getD i 0 = l.getD j 0) : i = j := by
  rw [List.getD_eq_getElem?_getD, List.getD_eq_getElem?_getD, List.getElem?_eq_getElem hi, List.getElem?_eq_getElem hj] at e
  exact (List.getElem_inj h).1 (by simpa using e)
theorem gd.ne {ll : List Sh} (h : gd ll) {i j : Nat} (hi : i < ll.length) (hj : j < ll.length) (e : i ≠ j) : ¬ (251 : Int) ∣ (ll.getD i Sh.z).x - (ll.getD j Sh.z).x := by
  have h1 := h.x i
  have h2 := h.x j
  have h3 : (ll.getD i Sh.z).x ≠ (ll.getD j Sh.z).x := fun h4 => e (nodup_at h.2.2 (by rw [xsL_len]; exact hi) (by rw [xsL_len]; exact hj) (by rw [xsL_at, xsL_at]; exact h4))
  omega
theorem gd.sub {ll l2 : List Sh} (h : gd ll) (s : l2.Sublist ll) : gd l2 :=
  ⟨fun x hx => h.1 x ((s.map Sh.x).subset hx), fun x hx => h.2.1 x ((s.map Sh.y).subset hx), h.2.2.sublist (s.map Sh.x)⟩
/-- a polynomial goes through shares -/
def gt (q : List Int) (ll : List Sh) : Prop := ∀ s ∈ ll, (251 : Int) ∣ ev q s.x - s.y
theorem gt_at {q : List Int} {ll : List Sh} (h : ∀ i, i < ll.length → (251 : Int) ∣ ev q (ll.getD i Sh.z).x - (ll.getD i Sh.z).y) : gt q ll := fun s hs => by
  obtain ⟨i, hi, rfl⟩ := mem_sh hs; exact h i hi
theorem gt.at {q : List Int} {ll : List Sh} (h : gt q ll) {i : Nat} (hi : i < ll.length) : (251 : Int) ∣ ev q (ll.getD i Sh.z).x - (ll.getD i Sh.z).y := h _ (sh_mem hi)
/-- the polynomial through shares -/
def isT (ll : List Sh) (q : List Int) : Prop := q.length = ll.length ∧ rg q ∧ gt q ll
theorem gt_uniq {ll : List Sh} {a b : List Int} (h : gd ll) (hab : a.length = b.length) (hl : a.length ≤ ll.length) (ra : rg a) (rb : rg b) (ga : gt a ll) (gb : gt b ll) : a = b := by
  refine uniq hab (by rw [xsL_len]; exact hl) (dif_of h.1 h.2.2) ra rb fun x hx => ?_
  obtain ⟨s, hs, rfl⟩ := List.mem_map.1 hx
  have h1 := ga s hs
  have h2 := gb s hs
  omega
theorem isT_uniq {ll : List Sh} {a b : List Int} (h : gd ll) (ha : isT ll a) (hb : isT ll b) : a = b :=
  gt_uniq h (ha.1.trans hb.1.symm) (by rw [ha.1]; exact Nat.le_refl _) ha.2.1 hb.2.1 ha.2.2 hb.2.2

/-- after k shares: what goes through them so far, and a polynomial that is 0 at them only -/
structure nw (ll : List Sh) (k : Nat) (c b : List Int) : Prop where
  cl : c.length = ll.length
  cr : rg c
  bl : b.length = k + 1
  br : rg b
  go : ∀ j, j < k → (251 : Int) ∣ ev c (ll.getD j Sh.z).x - (ll.getD j Sh.z).y
  nul : ∀ j, j < k → (251 : Int) ∣ ev b (ll.getD j Sh.z).x
  non : ∀ x, (∀ j, j < k → ¬ (251 : Int) ∣ x - (ll.getD j Sh.z).x) → ¬ (251 : Int) ∣ ev b x
theorem nw_zero (ll : List Sh) : nw ll 0 (List.replicate ll.length 0) [1] := by
  refine ⟨by simp, rg_zeros _, rfl, fun x hx => by simp at hx; omega, fun j hj => absurd hj (Nat.not_lt_zero _), fun j hj => absurd hj (Nat.not_lt_zero _), fun x _ => ?_⟩
  simp [ev]
theorem nw_step {ll : List Sh} {k : Nat} {c b c2 b2 : List Int} {f : Int} (h : nw ll k c b) (hg : gd ll) (hk : k < ll.length)
    (hf : f = ((ll.getD k Sh.z).y + 251 - pv c (ll.getD k Sh.z).x) * iv (pv b (ll.getD k Sh.z).x) % 251)
    (l2 : c2.length = ll.length) (r2 : rg c2) (a2 : ∀ t, (251 : Int) ∣ ev c2 t - (ev c t + f * ev b t))
    (l3 : b2.length = k + 1 + 1) (r3 : rg b2) (a3 : ∀ t, (251 : Int) ∣ ev b2 t - (t - (ll.getD k Sh.z).x) * ev b t) : nw ll (k + 1) c2 b2 := by
  refine ⟨l2, r2, l3, r3, fun j hj => ?_, fun j hj => ?_, fun x hx => ?_⟩
  · by_cases e : j = k
    · subst e
      have hn := h.non (ll.getD j Sh.z).x (fun i hi => hg.ne hk (by omega) (by omega))
      have h2 := a2 (ll.getD j Sh.z).x
      obtain ⟨i1, e1⟩ := pv_dv c (ll.getD j Sh.z).x
      obtain ⟨i2, e2⟩ := pv_dv b (ll.getD j Sh.z).x
      have hp : 1 ≤ pv b (ll.getD j Sh.z).x ∧ pv b (ll.getD j Sh.z).x ≤ 250 := by unfold pv; omega
      obtain ⟨i3, e3⟩ : (251 : Int) ∣ pv b (ll.getD j Sh.z).x * iv (pv b (ll.getD j Sh.z).x) - 1 := by have := iv_one hp.1 hp.2; omega
      obtain ⟨i4, e4⟩ : (251 : Int) ∣ ((ll.getD j Sh.z).y + 251 - pv c (ll.getD j Sh.z).x) * iv (pv b (ll.getD j Sh.z).x) - f := by rw [hf]; omega
      obtain ⟨i5, e5⟩ := h2
      generalize (ll.getD j Sh.z).y = y at *
      generalize (ll.getD j Sh.z).x = x at *
      generalize iv (pv b x) = i at *
      generalize pv b x = p at *
      generalize pv c x = q at *
      generalize ev c2 x = E2 at *
      generalize ev c x = C at *
      generalize ev b x = B at *
      clear hf hn h a2 a3
      -- E2 = C + f B + 251 i5; f = (y + 251 - q) i - 251 i4; B = p + 251 i2; p i = 1 + 251 i3; C = q + 251 i1
      refine ⟨i5 + i1 + f * i2 + (y + 251 - q) * i3 + 1 - p * i4, ?_⟩
      grind
    · obtain ⟨i1, e1⟩ := h.go j (by omega)
      obtain ⟨i2, e2⟩ := h.nul j (by omega)
      obtain ⟨i3, e3⟩ := a2 (ll.getD j Sh.z).x
      refine ⟨i3 + i1 + f * i2, ?_⟩
      rw [e2] at e3; grind
  · by_cases e : j = k
    · subst e
      have h3 := a3 (ll.getD j Sh.z).x
      rw [Int.sub_self, Int.zero_mul, Int.sub_zero] at h3
      exact h3
    · obtain ⟨i2, e2⟩ := h.nul j (by omega)
      obtain ⟨i3, e3⟩ := a3 (ll.getD j Sh.z).x
      refine ⟨i3 + ((ll.getD j Sh.z).x - (ll.getD k Sh.z).x) * i2, ?_⟩
      rw [e2] at e3; grind
  · intro hc
    obtain ⟨i3, e3⟩ := a3 x
    obtain ⟨i4, e4⟩ := hc
    have : (251 : Int) ∣ (x - (ll.getD k Sh.z).x) * ev b x := ⟨i4 - i3, by rw [e4] at e3; omega⟩
    exact h.non x (fun j hj => hx j (by omega)) (dv_mul this (hx k (by omega)))
theorem nw_end {ll : List Sh} {c b : List Int} (h : nw ll ll.length c b) : isT ll c := ⟨h.cl, h.cr, gt_at h.go⟩

/-- the polynomial that is 0 at the first k shares but the one with index i, and its value there -/
structure lgi (ll : List Sh) (i k : Nat) (p : List Int) (d : Int) : Prop where
  pl : p.length = if k ≤ i then k + 1 else k
  pr : rg p
  d0 : 1 ≤ d
  d1 : d ≤ 250
  nul : ∀ j, j < k → j ≠ i → (251 : Int) ∣ ev p (ll.getD j Sh.z).x
  val : (251 : Int) ∣ ev p (ll.getD i Sh.z).x - d
theorem lgi_zero (ll : List Sh) (i : Nat) : lgi ll i 0 [1] 1 := by
  refine ⟨by simp, fun x hx => by simp at hx; omega, by omega, by omega, fun j hj => absurd hj (Nat.not_lt_zero _), by simp [ev]⟩
theorem lgi_skip {ll : List Sh} {i : Nat} {p : List Int} {d : Int} (h : lgi ll i i p d) : lgi ll i (i + 1) p d :=
  ⟨by rw [h.pl]; simp, h.pr, h.d0, h.d1, fun j hj e => h.nul j (by omega) e, h.val⟩
theorem lgi_step {ll : List Sh} {i k : Nat} {p p2 : List Int} {d d2 : Int} (h : lgi ll i k p d) (hg : gd ll) (hi : i < ll.length) (hk : k < ll.length) (e : k ≠ i)
    (l2 : p2.length = p.length + 1) (r2 : rg p2) (a2 : ∀ t, (251 : Int) ∣ ev p2 t - (t - (ll.getD k Sh.z).x) * ev p t)
    (hd : d2 = d * ((ll.getD i Sh.z).x - (ll.getD k Sh.z).x + 251) % 251) : lgi ll i (k + 1) p2 d2 := by
  have hd0 : ¬ (251 : Int) ∣ d2 := by
    intro hc
    have : (251 : Int) ∣ d * ((ll.getD i Sh.z).x - (ll.getD k Sh.z).x + 251) := by omega
    have h0 := h.d0
    have h1 := h.d1
    have h2 := dv_mul this (by omega)
    have h3 := hg.ne hi hk (Ne.symm e)
    omega
  refine ⟨?_, r2, by omega, by omega, fun j hj ej => ?_, ?_⟩
  · rw [l2, h.pl]; split <;> split <;> omega
  · by_cases e2 : j = k
    · subst e2
      have h3 := a2 (ll.getD j Sh.z).x
      rw [Int.sub_self, Int.zero_mul, Int.sub_zero] at h3
      exact h3
    · obtain ⟨i2, e2⟩ := h.nul j (by omega) ej
      obtain ⟨i3, e3⟩ := a2 (ll.getD j Sh.z).x
      refine ⟨i3 + ((ll.getD j Sh.z).x - (ll.getD k Sh.z).x) * i2, ?_⟩
      rw [e2] at e3; grind
  · obtain ⟨i1, e1⟩ := h.val
    obtain ⟨i3, e3⟩ := a2 (ll.getD i Sh.z).x
    obtain ⟨i4, e4⟩ : (251 : Int) ∣ d * ((ll.getD i Sh.z).x - (ll.getD k Sh.z).x + 251) - d2 := by omega
    refine ⟨i3 + ((ll.getD i Sh.z).x - (ll.getD k Sh.z).x) * i1 + i4 - d, ?_⟩
    grind
/-- after i shares: a polynomial with their values, and 0 at the others -/
structure lgo (ll : List Sh) (i : Nat) (o : List Int) : Prop where
  ol : o.length = ll.length
  orr : rg o
  go : ∀ j, j < ll.length → (251 : Int) ∣ ev o (ll.getD j Sh.z).x - (if j < i then (ll.getD j Sh.z).y else 0)
theorem lgo_zero (ll : List Sh) : lgo ll 0 (List.replicate ll.length 0) := by
  refine ⟨by simp, rg_zeros _, fun j hj => ?_⟩
  rw [ev_zeros, if_neg (by omega)]; exact ⟨0, rfl⟩
theorem lgo_step {ll : List Sh} {i : Nat} {o o2 p : List Int} {d f : Int} (h : lgo ll i o) (hp : lgi ll i ll.length p d) (hi : i < ll.length) (hf : f = (ll.getD i Sh.z).y * iv d % 251)
    (l2 : o2.length = ll.length) (r2 : rg o2) (a2 : ∀ t, (251 : Int) ∣ ev o2 t - (ev o t + f * ev p t)) : lgo ll (i + 1) o2 := by
  refine ⟨l2, r2, fun j hj => ?_⟩
  obtain ⟨i3, e3⟩ := a2 (ll.getD j Sh.z).x
  obtain ⟨i1, e1⟩ := h.go j hj
  by_cases e : j = i
  · subst e
    rw [if_neg (by omega)] at e1
    rw [if_pos (by omega)]
    obtain ⟨i2, e2⟩ := hp.val
    obtain ⟨i4, e4⟩ : (251 : Int) ∣ d * iv d - 1 := by have := iv_one hp.d0 hp.d1; omega
    obtain ⟨i5, e5⟩ : (251 : Int) ∣ (ll.getD j Sh.z).y * iv d - f := by rw [hf]; omega
    generalize (ll.getD j Sh.z).y = y at *
    generalize (ll.getD j Sh.z).x = x at *
    generalize iv d = w at *
    generalize ev o2 x = E2 at *
    generalize ev o x = O at *
    generalize ev p x = P at *
    clear hf a2 h
    -- E2 = O + f P + 251 i3; O = 251 i1; P = d + 251 i2; f = y w - 251 i5; d w = 1 + 251 i4
    refine ⟨i3 + i1 + f * i2 + y * i4 - d * i5, ?_⟩
    grind
  · obtain ⟨i2, e2⟩ := hp.nul j hj e
    refine ⟨i3 + i1 + f * i2, ?_⟩
    rw [e2] at e3
    by_cases e4 : j < i
    · rw [if_pos e4] at e1; rw [if_pos (by omega)]; grind
    · rw [if_neg e4] at e1; rw [if_neg (by omega)]; grind
theorem lgo_end {ll : List Sh} {o : List Int} (h : lgo ll ll.length o) : isT ll o :=
  ⟨h.ol, h.orr, gt_at fun i hi => by have := h.go i hi; rwa [if_pos hi] at this⟩

/-- valid places, valid shares -/
def plOk (xs : List Int) : Prop := xs.length ≤ 12 ∧ (∀ x ∈ xs, 1 ≤ x ∧ x ≤ 250) ∧ xs.Nodup
def svOk (ll : List Sh) : Prop := plOk (xsL ll) ∧ rg (ysL ll)
theorem svOk.gd {ll : List Sh} (h : svOk ll) : gd ll := ⟨fun x hx => by have := h.1.2.1 x hx; omega, h.2, h.1.2.2⟩
theorem svOk.len {ll : List Sh} (h : svOk ll) : ll.length ≤ 12 := by have := h.1.1; rwa [xsL_len] at this
theorem svOk.sub {ll l2 : List Sh} (h : svOk ll) (s : l2.Sublist ll) : svOk l2 :=
  ⟨⟨by rw [xsL_len]; exact Nat.le_trans s.length_le h.len, fun x hx => h.1.2.1 x ((s.map Sh.x).subset hx), h.1.2.2.sublist (s.map Sh.x)⟩, fun x hx => h.2 x ((s.map Sh.y).subset hx)⟩
open Classical in
noncomputable def svB (ll : List Sh) : Bool := decide (svOk ll)
theorem svB_yes {ll : List Sh} (h : svOk ll) : svB ll = true := by unfold svB; simp [h]
theorem svB_no {ll : List Sh} (h : ¬ svOk ll) : svB ll = false := by unfold svB; simp [h]
theorem svB_iff {ll : List Sh} : svB ll = true ↔ svOk ll := by unfold svB; simp
open Classical in
/-- the polynomial through shares, if there is one -/
noncomputable def thr (ll : List Sh) : List Int := if h : ∃ q, isT ll q then Classical.choose h else []
theorem thr_of {ll : List Sh} {q : List Int} (h : gd ll) (hq : isT ll q) : thr ll = q := by
  have hx : ∃ q, isT ll q := ⟨q, hq⟩
  have := Classical.choose_spec hx
  unfold thr; rw [dif_pos hx]
  exact isT_uniq h this hq
/-- a polynomial with need coefficients goes through shares -/
def fit (ll : List Sh) (need : Nat) : Prop := ∃ q : List Int, q.length = need ∧ rg q ∧ gt q ll
theorem fit.sub {ll l2 : List Sh} {n : Nat} (h : fit ll n) (s : l2.Sublist ll) : fit l2 n := by
  obtain ⟨q, h1, h2, h3⟩ := h
  exact ⟨q, h1, h2, fun x hx => h3 x (s.subset hx)⟩
theorem fit.more {ll : List Sh} {n m : Nat} (h : fit ll n) (hm : n ≤ m) : fit ll m := by
  obtain ⟨q, h1, h2, h3⟩ := h
  refine ⟨q ++ List.replicate (m - n) 0, by simp; omega, rg_pad h2 _, fun x hx => ?_⟩
  rw [ev_pad]; exact h3 x hx
theorem fit_few {ll : List Sh} {q : List Int} {n : Nat} (h : isT ll q) (hn : ll.length ≤ n) : fit ll n := fit.more ⟨q, h.1, h.2.1, h.2.2⟩ hn
/-- what goes through the first ones goes through all, if anything does -/
theorem fit_first {ll : List Sh} {q : List Int} {n : Nat} (hg : gd ll) (hn : n ≤ ll.length) (hq : isT (ll.take n) q) : fit ll n ↔ gt q ll := by
  constructor
  · rintro ⟨p, h1, h2, h3⟩
    have hl : (ll.take n).length = n := by rw [List.length_take]; omega
    have : p = q := gt_uniq (hg.sub (List.take_sublist n ll)) (by rw [h1, hq.1, hl]) (by rw [h1, hl]; exact Nat.le_refl _) h2 hq.2.1 (fun s hs => h3 s (List.mem_of_mem_take hs)) hq.2.2
    rw [← this]; exact h3
  · intro h
    exact ⟨q, by rw [hq.1, List.length_take]; omega, hq.2.1, h⟩
/-- shares without one -/
def drp (ll : List Sh) (i : Nat) : List Sh := ll.take i ++ ll.drop (i + 1)
theorem drp_eq (ll : List Sh) (i : Nat) : drp ll i = ll.eraseIdx i := (List.eraseIdx_eq_take_drop_succ ll i).symm
theorem drp_sub (ll : List Sh) (i : Nat) : (drp ll i).Sublist ll := by rw [drp_eq]; exact List.eraseIdx_sublist ..
theorem drp_len {ll : List Sh} {i : Nat} (h : i < ll.length) : (drp ll i).length = ll.length - 1 := by unfold drp; simp; omega
theorem drp_mem {ll : List Sh} {i j : Nat} (hj : j < ll.length) (e : j ≠ i) : ll.getD j Sh.z ∈ drp ll i := by
  unfold drp
  rw [List.mem_append]
  rcases Nat.lt_or_ge j i with h | h
  · left; rw [List.mem_take_iff_getElem]; exact ⟨j, by omega, by simp [List.getD_eq_getElem?_getD, hj]⟩
  · right; rw [List.mem_drop_iff_getElem]; exact ⟨j - (i + 1), by omega, by simp [List.getD_eq_getElem?_getD, hj, show i + 1 + (j - (i + 1)) = j by omega]⟩
/-- no two shares are wrong alone -/
theorem one_wrong {ll : List Sh} {n i j : Nat} (hg : gd ll) (hl : n + 2 ≤ ll.length) (hi : i < ll.length) (hj : j < ll.length) (e : i ≠ j) (h1 : fit (drp ll i) n) (h2 : fit (drp ll j) n) : fit ll n := by
  obtain ⟨p, p1, p2, p3⟩ := h1
  obtain ⟨q, q1, q2, q3⟩ := h2
  have hs : (drp (drp ll (max i j)) (min i j)).Sublist ll := (drp_sub _ _).trans (drp_sub _ _)
  have hlen : (drp (drp ll (max i j)) (min i j)).length = ll.length - 2 := by rw [drp_len (by rw [drp_len (by omega)]; omega), drp_len (by omega)]; omega
  have hin : ∀ s ∈ drp (drp ll (max i j)) (min i j), s ∈ drp ll i ∧ s ∈ drp ll j := by
    intro s hs
    rw [drp_eq, drp_eq] at hs
    have hm : s ∈ ll.eraseIdx (max i j) := (List.eraseIdx_sublist ..).subset hs
    obtain ⟨k, hk1, hk2, rfl⟩ := List.mem_eraseIdx_iff_getElem.1 hs
    have e1 : (ll.eraseIdx (max i j))[k]'hk1 = ll.getD (if k < max i j then k else k + 1) Sh.z := by
      rw [List.getElem_eraseIdx]
      have := List.length_eraseIdx_of_lt (show max i j < ll.length by omega)
      split
      · rw [List.getD_eq_getElem?_getD, List.getElem?_eq_getElem]; rfl
      · rw [List.getD_eq_getElem?_getD, List.getElem?_eq_getElem]; rfl
    rw [e1]
    have hlt : k < ll.length - 1 := by rw [← List.length_eraseIdx_of_lt (show max i j < ll.length by omega)]; exact hk1
    refine ⟨drp_mem (by split <;> omega) (by split <;> omega), drp_mem (by split <;> omega) (by split <;> omega)⟩
  have epq : p = q := gt_uniq (hg.sub hs) (p1.trans q1.symm) (by rw [p1, hlen]; omega) p2 q2 (fun s h => p3 s (hin s h).1) (fun s h => q3 s (hin s h).2)
  refine ⟨p, p1, p2, gt_at fun k hk => ?_⟩
  by_cases ek : k = i
  · rw [epq]; exact q3 _ (drp_mem hk (by omega))
  · exact p3 _ (drp_mem hk ek)
theorem acc_ex (c b : List Int) (f : Int) (hc : rg c) (hl : b.length ≤ c.length) : ∀ k, k ≤ b.length → ∃ m : List Int, m.length = c.length ∧ rg m ∧ accm m c b f k := by
  intro k
  induction k with
  | zero => intro _; exact ⟨c, rfl, hc, acc_zero c b f⟩
  | succ k ih =>
    intro hk
    obtain ⟨m, h1, h2, h3⟩ := ih (by omega)
    exact ⟨_, by rw [List.length_set, h1], rg_set h2 k (by omega) (by omega), acc_step h3 (by omega) (by omega)⟩
theorem mul_ex (c : List Int) (x : Int) : ∀ k, k ≤ c.length → ∃ m : List Int, m.length = c.length + 1 ∧ rg m ∧ mulx m c x k := by
  intro k
  induction k with
  | zero => intro _; exact ⟨_, by simp, rg_zeros (c.length + 1), mulx_zero _ c x⟩
  | succ k ih =>
    intro hk
    obtain ⟨m, h1, h2, h3⟩ := ih (by omega)
    exact ⟨_, by rw [List.length_set, List.length_set, h1], rg_set (rg_set h2 _ (by omega) (by omega)) k (by omega) (by omega), mulx_spec h3 (by omega) (by omega)⟩
theorem nw_ex {ll : List Sh} (hg : gd ll) : ∀ k, k ≤ ll.length → ∃ c b, nw ll k c b := by
  intro k
  induction k with
  | zero => intro _; exact ⟨_, _, nw_zero ll⟩
  | succ k ih =>
    intro hk
    obtain ⟨c, b, h⟩ := ih (by omega)
    have h1 := h.cl
    have h2 := h.bl
    obtain ⟨m, a1, a2, a3⟩ := acc_ex c b (((ll.getD k Sh.z).y + 251 - pv c (ll.getD k Sh.z).x) * iv (pv b (ll.getD k Sh.z).x) % 251) h.cr (by omega) b.length (Nat.le_refl _)
    obtain ⟨p, b1, b2, b3⟩ := mul_ex b (ll.getD k Sh.z).x b.length (Nat.le_refl _)
    exact ⟨m, p, nw_step h hg (by omega) rfl (by omega) a2 (fun t => acc_end a3 t) (by omega) b2 (fun t => mulx_end b3 t)⟩
theorem thr_ex {ll : List Sh} (hg : gd ll) : isT ll (thr ll) := by
  obtain ⟨c, b, h⟩ := nw_ex hg ll.length (Nat.le_refl _)
  have h2 := nw_end h
  rw [thr_of hg h2]; exact h2
theorem thr_len {ll : List Sh} (hg : gd ll) : (thr ll).length = ll.length := (thr_ex hg).1
theorem nw_pos {ll : List Sh} {k : Nat} {c b : List Int} (h : nw ll k c b) (hg : gd ll) (hk : k < ll.length) : 1 ≤ pv b (ll.getD k Sh.z).x := by
  have := h.non (ll.getD k Sh.z).x (fun i hi => hg.ne hk (by omega) (by omega))
  have h2 := pv_bd b (ll.getD k Sh.z).x
  unfold pv at h2 ⊢; omega
end Go.Proofs.Ytgmhodmgbhpdaab
