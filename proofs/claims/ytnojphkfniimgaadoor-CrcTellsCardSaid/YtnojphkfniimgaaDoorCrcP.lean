/-
  The sum of bytes of layer 3, as plain functions on natural numbers below 2^32: steps, that they go with exclusive or, that none is lost; bursts of four bytes. No program is named here.
-/
namespace Go.Proofs.YtnojphkfniimgaaDoor

/-- One bit's turn. -/
def turn (s : Nat) : Nat := if s % 2 = 1 then (s / 2) ^^^ 2197175160 else s / 2
def turns : Nat → Nat → Nat
  | 0, s => s
  | k + 1, s => turns k (turn s)
theorem turns_add (k l s : Nat) : turns (k + l) s = turns l (turns k s) := by
  induction k generalizing s with
  | zero => rw [Nat.zero_add]; rfl
  | succ k ih => rw [Nat.succ_add]; exact ih (turn s)

/-! ### Exclusive or -/
theorem xor_half (a b : Nat) : (a ^^^ b) / 2 = a / 2 ^^^ b / 2 := by
  have h := Nat.shiftRight_xor_distrib (a := a) (b := b) (i := 1)
  simpa [Nat.shiftRight_eq_div_pow] using h
theorem xor_odd (a b : Nat) : (a ^^^ b) % 2 = (a + b) % 2 := by
  have h := Nat.xor_mod_two_pow (a := a) (b := b) (n := 1)
  rw [Nat.pow_one] at h
  rw [h]
  rcases Nat.mod_two_eq_zero_or_one a with h1 | h1 <;> rcases Nat.mod_two_eq_zero_or_one b with h2 | h2 <;> rw [h1, h2] <;> simp <;> omega
theorem xor_self_mid (a b : Nat) : a ^^^ (a ^^^ b) = b := by rw [← Nat.xor_assoc, Nat.xor_self, Nat.zero_xor]
theorem xor_eq_zero {a b : Nat} (h : a ^^^ b = 0) : a = b := by
  have h1 : a ^^^ (a ^^^ b) = a ^^^ 0 := by rw [h]
  rw [xor_self_mid, Nat.xor_zero] at h1
  exact h1.symm
/-- Of numbers that share no bit it is the sum. -/
theorem xor_apart {a x k : Nat} (h : a < 2 ^ k) : a ^^^ x * 2 ^ k = x * 2 ^ k + a := by
  apply Nat.eq_of_testBit_eq
  intro i
  rw [Nat.testBit_xor, Nat.mul_comm x, Nat.testBit_two_pow_mul_add _ h, Nat.mul_comm, Nat.testBit_mul_two_pow]
  by_cases hi : i < k
  · rw [if_pos hi, decide_eq_false (by omega)]
    simp
  · rw [if_neg hi, decide_eq_true (show k ≤ i by omega), Nat.testBit_lt_two_pow (Nat.lt_of_lt_of_le h (Nat.pow_le_pow_right (by omega) (by omega)))]
    simp
theorem turn_xor (s t : Nat) : turn (s ^^^ t) = turn s ^^^ turn t := by
  unfold turn
  rw [xor_half, xor_odd]
  rcases Nat.mod_two_eq_zero_or_one s with h1 | h1 <;> rcases Nat.mod_two_eq_zero_or_one t with h2 | h2
  · rw [if_neg (by omega), if_neg (by omega), if_neg (by omega)]
  · rw [if_pos (by omega), if_neg (by omega), if_pos (by omega), Nat.xor_assoc]
  · rw [if_pos (by omega), if_pos (by omega), if_neg (by omega), Nat.xor_assoc, Nat.xor_assoc, Nat.xor_comm (t / 2)]
  · rw [if_neg (by omega), if_pos (by omega), if_pos (by omega), Nat.xor_assoc, Nat.xor_comm (t / 2), ← Nat.xor_assoc 2197175160, Nat.xor_self, Nat.zero_xor]
theorem turns_xor (k s t : Nat) : turns k (s ^^^ t) = turns k s ^^^ turns k t := by
  induction k generalizing s t with
  | zero => rfl
  | succ k ih => rw [turns, turns, turns, turn_xor, ih]
theorem turn_zero : turn 0 = 0 := rfl
theorem turns_zero (k : Nat) : turns k 0 = 0 := by
  induction k with
  | zero => rfl
  | succ k ih => rw [turns, turn_zero, ih]
theorem turn_lt {s : Nat} (h : s < 4294967296) : turn s < 4294967296 := by
  unfold turn
  split
  · exact Nat.xor_lt_two_pow (n := 32) (by omega) (by decide)
  · omega
theorem turns_lt (k : Nat) {s : Nat} (h : s < 4294967296) : turns k s < 4294967296 := by
  induction k generalizing s with
  | zero => exact h
  | succ k ih => exact ih (turn_lt h)
/-- No sum but nought turns to nought: the highest bit tells the lowest one. -/
theorem turn_nought {s : Nat} (hs : s < 4294967296) (h : turn s = 0) : s = 0 := by
  unfold turn at h
  split at h
  · rename_i h1
    exfalso
    have := xor_eq_zero h
    omega
  · omega
theorem turns_nought (k : Nat) {s : Nat} (hs : s < 4294967296) (h : turns k s = 0) : s = 0 := by
  induction k generalizing s with
  | zero => exact h
  | succ k ih => exact turn_nought hs (ih (turn_lt hs) h)
theorem turns_same (k : Nat) {s t : Nat} (hs : s < 4294967296) (ht : t < 4294967296) (h : turns k s = turns k t) : s = t := by
  refine xor_eq_zero (turns_nought k (Nat.xor_lt_two_pow (n := 32) hs ht) ?_)
  rw [turns_xor, h, Nat.xor_self]
/-- What lies above the lowest k bits only moves down. -/
theorem turns_high (k x : Nat) : turns k (x * 2 ^ k) = x := by
  induction k generalizing x with
  | zero => rw [Nat.pow_zero, Nat.mul_one]; rfl
  | succ k ih =>
    rw [turns]
    have h : turn (x * 2 ^ (k + 1)) = x * 2 ^ k := by
      unfold turn
      rw [Nat.pow_succ, ← Nat.mul_assoc, if_neg (by omega), Nat.mul_div_cancel _ (by omega)]
    rw [h, ih]

/-! ### Halves, bytes, rows -/
/-- The step of a half. -/
def stepN (s h : Nat) : Nat := turns 4 (s ^^^ h % 16)
def byteN (s b : Nat) : Nat := stepN (stepN s (b % 16)) (b / 16)
def rowN (s : Nat) (l : List Nat) : Nat := l.foldl byteN s
/-- All 32 bits turned about. -/
def notN (s : Nat) : Nat := 4294967295 - s
def nextN (s : Nat) (l : List Nat) : Nat := notN (rowN (notN s) l)
def sumN (l : List Nat) : Nat := nextN 0 l

theorem notN_xor {s : Nat} (h : s < 4294967296) : notN s = s ^^^ 4294967295 := by
  have h1 : ((BitVec.ofNat 32 s) ^^^ BitVec.allOnes 32).toNat = (~~~ (BitVec.ofNat 32 s)).toNat := by rw [BitVec.xor_allOnes]
  rw [BitVec.toNat_xor, BitVec.toNat_not, BitVec.toNat_ofNat, BitVec.toNat_allOnes, Nat.mod_eq_of_lt (show s < 2 ^ 32 from h)] at h1
  exact h1.symm
theorem stepN_lt {s : Nat} (h : Nat) (hs : s < 4294967296) : stepN s h < 4294967296 := by
  unfold stepN
  exact turns_lt 4 (Nat.xor_lt_two_pow (n := 32) hs (by omega))
theorem byteN_eq (s : Nat) {b : Nat} (hb : b < 256) : byteN s b = turns 8 (s ^^^ b) := by
  unfold byteN stepN
  rw [Nat.mod_mod, Nat.mod_eq_of_lt (show b / 16 < 16 by omega)]
  have h1 : b / 16 = turns 4 (b / 16 * 2 ^ 4) := (turns_high 4 _).symm
  have h2 : b % 16 ^^^ b / 16 * 2 ^ 4 = b := by
    rw [xor_apart (show b % 16 < 2 ^ 4 by omega)]
    omega
  rw [h1, ← turns_xor, ← turns_add, Nat.xor_assoc, h2]
theorem byteN_lt {s : Nat} (b : Nat) (hs : s < 4294967296) : byteN s b < 4294967296 := stepN_lt _ (stepN_lt _ hs)
theorem rowN_lt {s : Nat} (l : List Nat) (hs : s < 4294967296) : rowN s l < 4294967296 := by
  unfold rowN
  induction l generalizing s with
  | nil => exact hs
  | cons b l ih => exact ih (byteN_lt b hs)
theorem rowN_append (s : Nat) (l m : List Nat) : rowN s (l ++ m) = rowN (rowN s l) m := List.foldl_append

theorem nextN_lt (s : Nat) (l : List Nat) : nextN s l < 4294967296 := by
  unfold nextN notN
  omega
theorem notN_notN {s : Nat} (h : s < 4294967296) : notN (notN s) = s := by unfold notN; omega
theorem notN_lt (s : Nat) : notN s < 4294967296 := by unfold notN; omega
theorem notN_same {s t : Nat} (hs : s < 4294967296) (ht : t < 4294967296) (h : notN s = notN t) : s = t := by unfold notN at h; omega
/-- A sum goes on. -/
theorem nextN_append (s : Nat) (l m : List Nat) : nextN s (l ++ m) = nextN (nextN s l) m := by
  unfold nextN
  rw [rowN_append, notN_notN (rowN_lt l (notN_lt s))]
theorem nextN_nil {s : Nat} (h : s < 4294967296) : nextN s [] = s := notN_notN h
/-- A step out of a row of sixteen. -/
theorem turns_four (s : Nat) : turns 4 s = turns 4 (s % 16) ^^^ s / 16 := by
  have h : s % 16 ^^^ s / 16 * 2 ^ 4 = s := by
    rw [xor_apart (show s % 16 < 2 ^ 4 by omega)]
    omega
  conv => lhs; rw [← h]
  rw [turns_xor, turns_high]

/-! ### Rows put together by exclusive or -/
def BytN (l : List Nat) : Prop := ∀ x ∈ l, x < 256
def xorL (l m : List Nat) : List Nat := List.zipWith (fun x y => x ^^^ y) l m
theorem byte_xor {a b : Nat} (ha : a < 256) (hb : b < 256) : a ^^^ b < 256 := Nat.xor_lt_two_pow (n := 8) ha hb
theorem byteN_xor (s t : Nat) {a b : Nat} (ha : a < 256) (hb : b < 256) : byteN (s ^^^ t) (a ^^^ b) = byteN s a ^^^ byteN t b := by
  rw [byteN_eq _ ha, byteN_eq _ hb, byteN_eq _ (byte_xor ha hb), ← turns_xor]
  congr 1
  rw [Nat.xor_assoc, Nat.xor_assoc, ← Nat.xor_assoc t, Nat.xor_comm t a, Nat.xor_assoc a]
theorem stepN_xor (s t : Nat) (h k : Nat) : stepN (s ^^^ t) (h ^^^ k) = stepN s h ^^^ stepN t k := by
  unfold stepN
  have e : (h ^^^ k) % 16 = h % 16 ^^^ k % 16 := Nat.xor_mod_two_pow (a := h) (b := k) (n := 4)
  rw [e, ← turns_xor]
  congr 1
  rw [Nat.xor_assoc, Nat.xor_assoc, ← Nat.xor_assoc t, Nat.xor_comm t (h % 16), Nat.xor_assoc (h % 16)]
theorem rowN_xor (l : List Nat) : ∀ (m : List Nat) (s t : Nat), l.length = m.length → BytN l → BytN m → rowN (s ^^^ t) (xorL l m) = rowN s l ^^^ rowN t m := by
  induction l with
  | nil =>
    intro m s t h _ _
    cases m with
    | nil => rfl
    | cons b m => simp at h
  | cons a l ih =>
    intro m s t h hl hm
    cases m with
    | nil => simp at h
    | cons b m =>
      show rowN (byteN (s ^^^ t) (a ^^^ b)) (xorL l m) = rowN (byteN s a) l ^^^ rowN (byteN t b) m
      rw [byteN_xor s t (hl a (by simp)) (hm b (by simp))]
      exact ih m _ _ (by simpa using h) (fun x hx => hl x (by simp [hx])) (fun x hx => hm x (by simp [hx]))
theorem xorL_length {l m : List Nat} (h : l.length = m.length) : (xorL l m).length = l.length := by
  unfold xorL
  rw [List.length_zipWith, h, Nat.min_self]
theorem xorL_byt (l : List Nat) : ∀ (m : List Nat), BytN l → BytN m → BytN (xorL l m) := by
  induction l with
  | nil => intro m _ _ x hx; simp [xorL] at hx
  | cons a l ih =>
    intro m hl hm
    cases m with
    | nil => intro x hx; simp [xorL] at hx
    | cons b m =>
      intro x hx
      rcases List.mem_cons.1 (show x ∈ (a ^^^ b) :: xorL l m from hx) with h | h
      · rw [h]; exact byte_xor (hl a (by simp)) (hm b (by simp))
      · exact ih m (fun x hx => hl x (by simp [hx])) (fun x hx => hm x (by simp [hx])) x h
/-- Three rows. -/
theorem sumN_three {a b c : List Nat} (h1 : a.length = b.length) (h2 : a.length = c.length) (ha : BytN a) (hb : BytN b) (hc : BytN c) :
    sumN (xorL (xorL a b) c) = sumN a ^^^ sumN b ^^^ sumN c := by
  have e0 : notN 0 = 4294967295 := rfl
  have e1 : rowN (notN 0) (xorL (xorL a b) c) = rowN (notN 0) a ^^^ rowN (notN 0) b ^^^ rowN (notN 0) c := by
    have e2 : notN 0 = notN 0 ^^^ notN 0 ^^^ notN 0 := by rw [Nat.xor_self, Nat.zero_xor]
    conv => lhs; rw [e2]
    rw [rowN_xor _ _ _ _ (by rw [xorL_length h1, h2]) (xorL_byt _ _ ha hb) hc, rowN_xor _ _ _ _ h1 ha hb]
  unfold sumN nextN
  have hA := rowN_lt a (notN_lt 0)
  have hB := rowN_lt b (notN_lt 0)
  have hC := rowN_lt c (notN_lt 0)
  rw [e1, notN_xor hA, notN_xor hB, notN_xor hC, notN_xor (Nat.xor_lt_two_pow (n := 32) (Nat.xor_lt_two_pow (n := 32) hA hB) hC)]
  generalize rowN (notN 0) a = x
  generalize rowN (notN 0) b = y
  generalize rowN (notN 0) c = z
  generalize (4294967295 : Nat) = o
  have e3 : (x ^^^ o) ^^^ (y ^^^ o) = x ^^^ y := by
    rw [Nat.xor_assoc, Nat.xor_comm o, Nat.xor_assoc, Nat.xor_self, Nat.xor_zero]
  rw [e3, Nat.xor_assoc (x ^^^ y)]

/-! ### Bursts -/
def noughts (k : Nat) : List Nat := List.replicate k 0
theorem rowN_noughts (k s : Nat) : rowN s (noughts k) = turns (8 * k) s := by
  induction k generalizing s with
  | zero => rfl
  | succ k ih =>
    show rowN (byteN s 0) (noughts k) = _
    rw [ih, byteN_eq s (show 0 < 256 by omega), Nat.xor_zero, ← turns_add]
    congr 1
    omega
/-- Four bytes, the lowest first, as one number. -/
def fourN (a b c d : Nat) : Nat := a + 256 * b + 65536 * c + 16777216 * d
theorem turns_low {k l x : Nat} {a : Nat} (h : a < 2 ^ k) : turns (k + l) (x * 2 ^ k + a) = turns l (turns k a ^^^ x) := by
  rw [turns_add, ← xor_apart h, turns_xor, turns_high]
theorem rowN_four (s : Nat) {a b c d : Nat} (ha : a < 256) (hb : b < 256) (hc : c < 256) (hd : d < 256) : rowN s [a, b, c, d] = turns 32 (s ^^^ fourN a b c d) := by
  show byteN (byteN (byteN (byteN s a) b) c) d = _
  rw [byteN_eq _ hd, byteN_eq _ hc, byteN_eq _ hb, byteN_eq _ ha]
  have e1 : fourN a b c d = a ^^^ (fourN b c d 0) * 2 ^ 8 := by
    rw [xor_apart (show a < 2 ^ 8 by omega)]; unfold fourN; omega
  have e2 : fourN b c d 0 = b ^^^ (fourN c d 0 0) * 2 ^ 8 := by
    rw [xor_apart (show b < 2 ^ 8 by omega)]; unfold fourN; omega
  have e3 : fourN c d 0 0 = c ^^^ d * 2 ^ 8 := by
    rw [xor_apart (show c < 2 ^ 8 by omega)]; unfold fourN; omega
  rw [show (32 : Nat) = 8 + (8 + (8 + 8)) from rfl, turns_add, turns_add 8 (8 + 8), turns_add 8 8, e1, ← Nat.xor_assoc, turns_xor 8 (s ^^^ a), turns_high, e2, ← Nat.xor_assoc, turns_xor 8 (turns 8 (s ^^^ a) ^^^ b), turns_high, e3, ← Nat.xor_assoc, turns_xor 8 (turns 8 (turns 8 (s ^^^ a) ^^^ b) ^^^ c), turns_high]
/-- A row that is nought but for four bytes side by side. -/
def burst (k a b c d r : Nat) : List Nat := noughts k ++ ([a, b, c, d] ++ noughts r)
theorem noughts_byt (k : Nat) : BytN (noughts k) := fun x hx => by
  have := List.eq_of_mem_replicate hx
  omega
theorem burst_byt {k a b c d r : Nat} (ha : a < 256) (hb : b < 256) (hc : c < 256) (hd : d < 256) : BytN (burst k a b c d r) := by
  intro x hx
  unfold burst at hx
  rcases List.mem_append.1 hx with h | h
  · exact noughts_byt k x h
  · rcases List.mem_append.1 h with h | h
    · simp at h
      omega
    · exact noughts_byt r x h
theorem burst_length (k a b c d r : Nat) : (burst k a b c d r).length = k + 4 + r := by
  unfold burst noughts
  simp
  omega
theorem fourN_lt {a b c d : Nat} (ha : a < 256) (hb : b < 256) (hc : c < 256) (hd : d < 256) : fourN a b c d < 4294967296 := by unfold fourN; omega
theorem fourN_nought {a b c d : Nat} (h : fourN a b c d = 0) : a = 0 ∧ b = 0 ∧ c = 0 ∧ d = 0 := by unfold fourN at h; omega
theorem fourN_same {a b c d a' b' c' d' : Nat} (ha : a < 256) (hb : b < 256) (hc : c < 256) (ha' : a' < 256) (hb' : b' < 256) (hc' : c' < 256) (h : fourN a b c d = fourN a' b' c' d') : a = a' ∧ b = b' ∧ c = c' ∧ d = d' := by
  unfold fourN at h
  omega
theorem rowN_burst {k a b c d r : Nat} (ha : a < 256) (hb : b < 256) (hc : c < 256) (hd : d < 256) (h : ¬ (a = 0 ∧ b = 0 ∧ c = 0 ∧ d = 0)) : rowN 0 (burst k a b c d r) ≠ 0 := by
  intro h0
  unfold burst at h0
  rw [rowN_append, rowN_noughts, turns_zero, rowN_append, rowN_four 0 ha hb hc hd, rowN_noughts, Nat.zero_xor] at h0
  have hl := fourN_lt ha hb hc hd
  exact h (fourN_nought (turns_nought 32 hl (turns_nought _ (turns_lt 32 hl) h0)))
theorem rowN_differs {l : List Nat} {k a b c d r s : Nat} (hlen : l.length = k + 4 + r) (hl : BytN l) (ha : a < 256) (hb : b < 256) (hc : c < 256) (hd : d < 256) (h : ¬ (a = 0 ∧ b = 0 ∧ c = 0 ∧ d = 0)) :
    rowN s (xorL l (burst k a b c d r)) ≠ rowN s l := by
  intro h0
  have e := rowN_xor l (burst k a b c d r) s 0 (by rw [hlen, burst_length]) hl (burst_byt ha hb hc hd)
  rw [Nat.xor_zero, h0] at e
  have h1 := congrArg (fun x => rowN s l ^^^ x) e
  simp only [Nat.xor_self, xor_self_mid] at h1
  exact rowN_burst ha hb hc hd h h1.symm
/-- Within four bytes side by side alone: the sums are not the same. -/
theorem sumN_differs {l : List Nat} {k a b c d r : Nat} (hlen : l.length = k + 4 + r) (hl : BytN l) (ha : a < 256) (hb : b < 256) (hc : c < 256) (hd : d < 256) (h : ¬ (a = 0 ∧ b = 0 ∧ c = 0 ∧ d = 0)) :
    sumN (xorL l (burst k a b c d r)) ≠ sumN l := fun h0 =>
  rowN_differs hlen hl ha hb hc hd h (notN_same (rowN_lt _ (notN_lt 0)) (rowN_lt _ (notN_lt 0)) h0)
/-- A sum's four bytes. -/
def bytesN (s : Nat) : List Nat := [s % 256, s / 256 % 256, s / 65536 % 256, s / 16777216]
theorem bytesN_four {s : Nat} : fourN (s % 256) (s / 256 % 256) (s / 65536 % 256) (s / 16777216) = s := by unfold fourN; omega
/-- Behind a row and its sum's four bytes there is always one and the same; and behind no other four bytes. -/
theorem rowN_sum (l : List Nat) : rowN (notN 0) (l ++ bytesN (sumN l)) = turns 32 4294967295 := by
  have hlt : sumN l < 4294967296 := nextN_lt 0 l
  rw [rowN_append]
  unfold bytesN
  rw [rowN_four _ (by omega) (by omega) (by omega) (by omega), bytesN_four]
  congr 1
  unfold sumN nextN
  rw [notN_xor (rowN_lt l (notN_lt 0)), xor_self_mid]
theorem take_differs {l : List Nat} {n k a b c d r : Nat} (hn : l.length = n) (hlen : n + 4 = k + 4 + r) (hl : BytN l) (ha : a < 256) (hb : b < 256) (hc : c < 256) (hd : d < 256) (h : ¬ (a = 0 ∧ b = 0 ∧ c = 0 ∧ d = 0)) :
    (xorL (l ++ bytesN (sumN l)) (burst k a b c d r)).drop n ≠ bytesN (sumN ((xorL (l ++ bytesN (sumN l)) (burst k a b c d r)).take n)) := by
  intro h0
  have hb4 : BytN (bytesN (sumN l)) := by
    have hlt : sumN l < 4294967296 := nextN_lt 0 l
    intro x hx
    simp [bytesN] at hx
    omega
  have h1 : (l ++ bytesN (sumN l)).length = k + 4 + r := by rw [List.length_append, hn]; exact hlen
  have h2 := rowN_differs (s := notN 0) h1 (fun x hx => by
    rcases List.mem_append.1 hx with h | h
    · exact hl x h
    · exact hb4 x h) ha hb hc hd h
  rw [rowN_sum] at h2
  refine h2 ?_
  have h3 := rowN_sum ((xorL (l ++ bytesN (sumN l)) (burst k a b c d r)).take n)
  rw [← h0, List.take_append_drop] at h3
  exact h3

end Go.Proofs.YtnojphkfniimgaaDoor
