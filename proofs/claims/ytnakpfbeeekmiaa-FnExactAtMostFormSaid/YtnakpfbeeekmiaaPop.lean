/- How many binary digits are 1 (plain): the way of masks, for numbers below 65536. -/
namespace Go.Proofs.Ytnakpfbeeekmiaa

def ones1 (x : Nat) : Nat := ((x >>> 1) &&& 6148914691236517205) + (x &&& 6148914691236517205)
def ones2 (x : Nat) : Nat := ((x >>> 2) &&& 3689348814741910323) + (x &&& 3689348814741910323)
def ones3 (x : Nat) : Nat := ((x >>> 4) + x) &&& 1085102592571150095
def ones4 (x : Nat) : Nat := x + (x >>> 8)
def ones5 (x : Nat) : Nat := x + (x >>> 16)
def ones6 (x : Nat) : Nat := x + (x >>> 32)
def onesX (x : Nat) : Nat := ones6 (ones5 (ones4 (ones3 (ones2 (ones1 x))))) &&& 127
def popN : Nat → Nat → Nat
  | 0, _ => 0
  | k + 1, x => x % 2 + popN k (x / 2)
def pop (x : Nat) : Nat := popN 16 x
def chk (a : Nat) : Nat → Bool
  | 0 => true
  | n + 1 => Nat.beq (onesX (a + n)) (pop (a + n)) && (Nat.ble (ones1 (a + n)) 65536 && (Nat.ble (ones2 (ones1 (a + n))) 65536 && (Nat.ble (ones3 (ones2 (ones1 (a + n)))) 65536 && chk a n)))
theorem chk_at {a : Nat} : ∀ {n : Nat}, chk a n = true → ∀ k, k < n → onesX (a + k) = pop (a + k) ∧ ones1 (a + k) ≤ 65536 ∧ ones2 (ones1 (a + k)) ≤ 65536 ∧ ones3 (ones2 (ones1 (a + k))) ≤ 65536
  | 0, _, k, hk => by omega
  | n + 1, h, k, hk => by
    simp only [chk, Bool.and_eq_true] at h
    obtain ⟨h1, h2, h3, h4, h5⟩ := h
    by_cases e : k = n
    · subst e; exact ⟨Nat.eq_of_beq_eq_true h1, Nat.le_of_ble_eq_true h2, Nat.le_of_ble_eq_true h3, Nat.le_of_ble_eq_true h4⟩
    · exact chk_at h5 k (by omega)
theorem chk_0 : chk 0 1024 = true := by decide +kernel
theorem chk_1 : chk 1024 1024 = true := by decide +kernel
theorem chk_2 : chk 2048 1024 = true := by decide +kernel
theorem chk_3 : chk 3072 1024 = true := by decide +kernel
theorem chk_4 : chk 4096 1024 = true := by decide +kernel
theorem chk_5 : chk 5120 1024 = true := by decide +kernel
theorem chk_6 : chk 6144 1024 = true := by decide +kernel
theorem chk_7 : chk 7168 1024 = true := by decide +kernel
theorem chk_8 : chk 8192 1024 = true := by decide +kernel
theorem chk_9 : chk 9216 1024 = true := by decide +kernel
theorem chk_10 : chk 10240 1024 = true := by decide +kernel
theorem chk_11 : chk 11264 1024 = true := by decide +kernel
theorem chk_12 : chk 12288 1024 = true := by decide +kernel
theorem chk_13 : chk 13312 1024 = true := by decide +kernel
theorem chk_14 : chk 14336 1024 = true := by decide +kernel
theorem chk_15 : chk 15360 1024 = true := by decide +kernel
theorem chk_16 : chk 16384 1024 = true := by decide +kernel
theorem chk_17 : chk 17408 1024 = true := by decide +kernel
theorem chk_18 : chk 18432 1024 = true := by decide +kernel
theorem chk_19 : chk 19456 1024 = true := by decide +kernel
theorem chk_20 : chk 20480 1024 = true := by decide +kernel
theorem chk_21 : chk 21504 1024 = true := by decide +kernel
theorem chk_22 : chk 22528 1024 = true := by decide +kernel
theorem chk_23 : chk 23552 1024 = true := by decide +kernel
theorem chk_24 : chk 24576 1024 = true := by decide +kernel
theorem chk_25 : chk 25600 1024 = true := by decide +kernel
theorem chk_26 : chk 26624 1024 = true := by decide +kernel
theorem chk_27 : chk 27648 1024 = true := by decide +kernel
theorem chk_28 : chk 28672 1024 = true := by decide +kernel
theorem chk_29 : chk 29696 1024 = true := by decide +kernel
theorem chk_30 : chk 30720 1024 = true := by decide +kernel
theorem chk_31 : chk 31744 1024 = true := by decide +kernel
theorem chk_32 : chk 32768 1024 = true := by decide +kernel
theorem chk_33 : chk 33792 1024 = true := by decide +kernel
theorem chk_34 : chk 34816 1024 = true := by decide +kernel
theorem chk_35 : chk 35840 1024 = true := by decide +kernel
theorem chk_36 : chk 36864 1024 = true := by decide +kernel
theorem chk_37 : chk 37888 1024 = true := by decide +kernel
theorem chk_38 : chk 38912 1024 = true := by decide +kernel
theorem chk_39 : chk 39936 1024 = true := by decide +kernel
theorem chk_40 : chk 40960 1024 = true := by decide +kernel
theorem chk_41 : chk 41984 1024 = true := by decide +kernel
theorem chk_42 : chk 43008 1024 = true := by decide +kernel
theorem chk_43 : chk 44032 1024 = true := by decide +kernel
theorem chk_44 : chk 45056 1024 = true := by decide +kernel
theorem chk_45 : chk 46080 1024 = true := by decide +kernel
theorem chk_46 : chk 47104 1024 = true := by decide +kernel
theorem chk_47 : chk 48128 1024 = true := by decide +kernel
theorem chk_48 : chk 49152 1024 = true := by decide +kernel
theorem chk_49 : chk 50176 1024 = true := by decide +kernel
theorem chk_50 : chk 51200 1024 = true := by decide +kernel
theorem chk_51 : chk 52224 1024 = true := by decide +kernel
theorem chk_52 : chk 53248 1024 = true := by decide +kernel
theorem chk_53 : chk 54272 1024 = true := by decide +kernel
theorem chk_54 : chk 55296 1024 = true := by decide +kernel
theorem chk_55 : chk 56320 1024 = true := by decide +kernel
theorem chk_56 : chk 57344 1024 = true := by decide +kernel
theorem chk_57 : chk 58368 1024 = true := by decide +kernel
theorem chk_58 : chk 59392 1024 = true := by decide +kernel
theorem chk_59 : chk 60416 1024 = true := by decide +kernel
theorem chk_60 : chk 61440 1024 = true := by decide +kernel
theorem chk_61 : chk 62464 1024 = true := by decide +kernel
theorem chk_62 : chk 63488 1024 = true := by decide +kernel
theorem chk_63 : chk 64512 1024 = true := by decide +kernel
theorem chk_all : ∀ i, i < 64 → chk (1024 * i) 1024 = true
  | 0, _ => chk_0
  | 1, _ => chk_1
  | 2, _ => chk_2
  | 3, _ => chk_3
  | 4, _ => chk_4
  | 5, _ => chk_5
  | 6, _ => chk_6
  | 7, _ => chk_7
  | 8, _ => chk_8
  | 9, _ => chk_9
  | 10, _ => chk_10
  | 11, _ => chk_11
  | 12, _ => chk_12
  | 13, _ => chk_13
  | 14, _ => chk_14
  | 15, _ => chk_15
  | 16, _ => chk_16
  | 17, _ => chk_17
  | 18, _ => chk_18
  | 19, _ => chk_19
  | 20, _ => chk_20
  | 21, _ => chk_21
  | 22, _ => chk_22
  | 23, _ => chk_23
  | 24, _ => chk_24
  | 25, _ => chk_25
  | 26, _ => chk_26
  | 27, _ => chk_27
  | 28, _ => chk_28
  | 29, _ => chk_29
  | 30, _ => chk_30
  | 31, _ => chk_31
  | 32, _ => chk_32
  | 33, _ => chk_33
  | 34, _ => chk_34
  | 35, _ => chk_35
  | 36, _ => chk_36
  | 37, _ => chk_37
  | 38, _ => chk_38
  | 39, _ => chk_39
  | 40, _ => chk_40
  | 41, _ => chk_41
  | 42, _ => chk_42
  | 43, _ => chk_43
  | 44, _ => chk_44
  | 45, _ => chk_45
  | 46, _ => chk_46
  | 47, _ => chk_47
  | 48, _ => chk_48
  | 49, _ => chk_49
  | 50, _ => chk_50
  | 51, _ => chk_51
  | 52, _ => chk_52
  | 53, _ => chk_53
  | 54, _ => chk_54
  | 55, _ => chk_55
  | 56, _ => chk_56
  | 57, _ => chk_57
  | 58, _ => chk_58
  | 59, _ => chk_59
  | 60, _ => chk_60
  | 61, _ => chk_61
  | 62, _ => chk_62
  | 63, _ => chk_63
  | i + 64, h => by omega
theorem ones_ok {x : Nat} (h : x < 65536) : onesX x = pop x ∧ ones1 x ≤ 65536 ∧ ones2 (ones1 x) ≤ 65536 ∧ ones3 (ones2 (ones1 x)) ≤ 65536 := by
  have := chk_at (chk_all (x / 1024) (by omega)) (x % 1024) (by omega)
  rw [show 1024 * (x / 1024) + x % 1024 = x by omega] at this
  exact this
end Go.Proofs.Ytnakpfbeeekmiaa
