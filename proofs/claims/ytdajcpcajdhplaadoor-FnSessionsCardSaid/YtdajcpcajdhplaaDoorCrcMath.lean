/-
  The sum of chapter 3 as plain mathematics on Nat: bit by bit, by halves of a byte, over a list. No Go in it.
-/
namespace Go.Proofs.YtdajcpcajdhplaaDoor.Crc
def P : Nat := 0x82F63B78
def step (x : Nat) : Nat := (x / 2) ^^^ (if x % 2 = 1 then P else 0)
theorem step_bit (x i : Nat) : (step x).testBit i = (x.testBit (i + 1) ^^ (x.testBit 0 && P.testBit i)) := by
  unfold step
  rw [Nat.testBit_xor, Nat.testBit_succ]
  have h0 : x.testBit 0 = decide (x % 2 = 1) := Nat.testBit_zero x
  by_cases h : x % 2 = 1 <;> simp [h, h0]
theorem step_xor (a b : Nat) : step (a ^^^ b) = step a ^^^ step b := by
  apply Nat.eq_of_testBit_eq
  intro i
  rw [Nat.testBit_xor, step_bit, step_bit, step_bit, Nat.testBit_xor, Nat.testBit_xor]
  cases a.testBit (i+1) <;> cases b.testBit (i+1) <;> cases a.testBit 0 <;> cases b.testBit 0 <;> cases P.testBit i <;> rfl
theorem step_even (q : Nat) : step (2 * q) = q := by
  unfold step
  rw [if_neg (by omega), Nat.mul_div_cancel_left q (by omega), Nat.xor_zero]
theorem step_lt (x : Nat) (h : x < 4294967296) : step x < 4294967296 := by
  unfold step
  exact Nat.xor_lt_two_pow (n := 32) (by omega) (by split <;> decide)
def step4 (x : Nat) : Nat := step (step (step (step x)))
theorem step4_lt (x : Nat) (h : x < 4294967296) : step4 x < 4294967296 := step_lt _ (step_lt _ (step_lt _ (step_lt _ h)))
theorem step4_xor (a b : Nat) : step4 (a ^^^ b) = step4 a ^^^ step4 b := by
  unfold step4; rw [step_xor, step_xor, step_xor, step_xor]
theorem split16 (x : Nat) : x = (16 * (x / 16)) ^^^ (x % 16) := by
  apply Nat.eq_of_testBit_eq
  intro i
  have e1 : (16 * (x / 16)) = (x / 2 ^ 4) * 2 ^ 4 := by omega
  have e2 : x % 16 = x % 2 ^ 4 := by omega
  rw [Nat.testBit_xor, e1, e2, Nat.testBit_mod_two_pow, Nat.testBit_mul_two_pow, Nat.testBit_div_two_pow]
  by_cases h : i < 4
  · simp [h, show ¬ 4 ≤ i by omega]
  · simp [h, show 4 ≤ i by omega, show i - 4 + 4 = i by omega]
theorem step4_split (x : Nat) : step4 x = (x / 16) ^^^ step4 (x % 16) := by
  have h := split16 x
  have e : step4 (16 * (x / 16)) = x / 16 := by
    have e1 : 16 * (x / 16) = 2 * (2 * (2 * (2 * (x / 16)))) := by omega
    unfold step4
    rw [e1, step_even, step_even, step_even, step_even]
  have e2 : step4 x = step4 (16 * (x/16)) ^^^ step4 (x % 16) := by
    rw [← step4_xor, ← h]
  rw [e2, e]
def T : List Nat := [0, 274646895, 549293790, 820201905, 1098587580, 1361435347, 1640403810, 1905808397, 2197175160, 2460548119, 2722870694, 2987750089, 3280807620, 3553878443, 3811616794, 4084100981]
theorem T_step (r : Nat) (h : r < 16) : T[r]? = some (step4 r) := by
  revert r; decide
/-- one byte -/
def crcB (s c : Nat) : Nat := step4 (step4 (s ^^^ c))
/-- many bytes -/
def crcL (s : Nat) (zs : List Nat) : Nat := zs.foldl crcB s
theorem crcB_lt (s c : Nat) (hs : s < 4294967296) (hc : c < 256) : crcB s c < 4294967296 :=
  step4_lt _ (step4_lt _ (Nat.xor_lt_two_pow (n := 32) hs (by omega)))
theorem crcL_nil (s : Nat) : crcL s [] = s := rfl
theorem crcL_snoc (s : Nat) (zs : List Nat) (c : Nat) : crcL s (zs ++ [c]) = crcB (crcL s zs) c := by
  unfold crcL; rw [List.foldl_append]; rfl
theorem crcL_append (s : Nat) (a b : List Nat) : crcL s (a ++ b) = crcL (crcL s a) b := by
  unfold crcL; rw [List.foldl_append]
theorem crcL_lt (zs : List Nat) (h : ∀ z ∈ zs, z < 256) : ∀ s, s < 4294967296 → crcL s zs < 4294967296 := by
  induction zs with
  | nil => intro s hs; exact hs
  | cons z r ih =>
    intro s hs
    exact ih (fun x hx => h x (List.mem_cons_of_mem _ hx)) _ (crcB_lt s z hs (h z List.mem_cons_self))
theorem take_snoc (zs : List Nat) (k : Nat) (h : k < zs.length) : zs.take (k + 1) = zs.take k ++ [zs.getD k 0] := by
  rw [List.take_succ_eq_append_getElem h]
  simp [List.getD, h]
theorem getD_mem (zs : List Nat) (k : Nat) (h : k < zs.length) : zs.getD k 0 ∈ zs := by
  simp [List.getD, h]
theorem lt_take (zs : List Nat) (k : Nat) (h : ∀ z ∈ zs, z < 256) : ∀ z ∈ zs.take k, z < 256 := fun z hz => h z (List.mem_of_mem_take hz)
/-- the whole sum -/
def crc (zs : List Nat) : Nat := 4294967295 - crcL 4294967295 zs
end Go.Proofs.YtdajcpcajdhplaaDoor.Crc
