/-
  Plain arithmetic of the group of 997 numbers: products and factors, on Lean's own integers. Nothing of any program.
-/
namespace Go.Proofs.Ytjdkhloijddjjab.Gm

def inG (n : Int) : Bool := decide (1 ≤ n ∧ n ≤ 996)
def mulG (a b : Int) : Int := bif inG a && inG b then a * b % 997 else 0
def facG (s : Int) : Int := bif inG s then 1 + (7 * s + 3) % 996 else 0

theorem inG_iff {n : Int} : inG n = true ↔ 1 ≤ n ∧ n ≤ 996 := by unfold inG; simp
theorem inG_no {n : Int} : inG n = false ↔ ¬ (1 ≤ n ∧ n ≤ 996) := by unfold inG; simp

theorem mulG_in {a b : Int} (ha : inG a = true) (hb : inG b = true) : mulG a b = a * b % 997 := by simp [mulG, ha, hb]
theorem mulG_out1 {a b : Int} (ha : inG a = false) : mulG a b = 0 := by simp [mulG, ha]
theorem mulG_out2 {a b : Int} (hb : inG b = false) : mulG a b = 0 := by simp [mulG, hb]
theorem mulG_comm (a b : Int) : mulG a b = mulG b a := by
  unfold mulG; rw [Bool.and_comm, Int.mul_comm]
theorem mulG_bd (a b : Int) : 0 ≤ mulG a b ∧ mulG a b ≤ 996 := by
  unfold mulG; cases inG a && inG b <;> simp <;> omega
theorem facG_in {s : Int} (h : inG s = true) : facG s = 1 + (7 * s + 3) % 996 := by simp [facG, h]
theorem facG_out {s : Int} (h : inG s = false) : facG s = 0 := by simp [facG, h]
theorem facG_bd (s : Int) : 0 ≤ facG s ∧ facG s ≤ 996 := by
  unfold facG; cases inG s <;> simp <;> omega

theorem cop : ∀ a : Fin 997, a.val ≠ 0 → Nat.gcd 997 a.val = 1 := by decide +kernel

theorem euclid {a c : Int} (ha : 1 ≤ a ∧ a ≤ 996) (h : (a * c) % 997 = 0) : c % 997 = 0 := by
  have hd : (997 : Int) ∣ a * c := Int.dvd_of_emod_eq_zero h
  have hn : (997 : Nat) ∣ a.natAbs * c.natAbs := by
    have := Int.natAbs_dvd_natAbs.2 hd
    simpa [Int.natAbs_mul] using this
  have hg : Nat.gcd 997 a.natAbs = 1 := cop ⟨a.natAbs, by omega⟩ (by simp; omega)
  have hc : (997 : Nat) ∣ c.natAbs := Nat.Coprime.dvd_of_dvd_mul_left hg hn
  have : (997 : Int) ∣ c := by
    have := Int.natAbs_dvd_natAbs (a := 997) (b := c)
    exact this.1 (by simpa using hc)
  exact Int.emod_eq_zero_of_dvd this

theorem mulG_pos {a b : Int} (ha : inG a = true) (hb : inG b = true) : inG (mulG a b) = true := by
  rw [inG_iff]
  have h1 := mulG_bd a b
  refine ⟨?_, h1.2⟩
  have : mulG a b ≠ 0 := by
    rw [mulG_in ha hb]
    intro h
    have := euclid (inG_iff.1 ha) h
    have := inG_iff.1 hb
    omega
  omega

theorem mulG_inj {a b c : Int} (ha : inG a = true) (hb : inG b = true) (hc : inG c = true) (h : mulG a b = mulG a c) : b = c := by
  rw [mulG_in ha hb, mulG_in ha hc] at h
  have h2 : (a * (b - c)) % 997 = 0 := by
    rw [Int.mul_sub]; omega
  have := euclid (inG_iff.1 ha) h2
  have := inG_iff.1 hb
  have := inG_iff.1 hc
  omega

theorem mulG_assoc {a b c : Int} (ha : inG a = true) (hb : inG b = true) (hc : inG c = true) : mulG a (mulG b c) = mulG (mulG a b) c := by
  rw [mulG_in ha (mulG_pos hb hc), mulG_in (mulG_pos ha hb) hc, mulG_in hb hc, mulG_in ha hb]
  have e1 : a * (b * c % 997) % 997 = a * (b * c) % 997 := by
    rw [Int.mul_emod a (b * c % 997), Int.emod_emod_of_dvd _ (Int.dvd_refl _), ← Int.mul_emod]
  have e2 : a * b % 997 * c % 997 = a * b * c % 997 := by
    rw [Int.mul_emod (a * b % 997) c, Int.emod_emod_of_dvd _ (Int.dvd_refl _), ← Int.mul_emod]
  rw [e1, e2, Int.mul_assoc]

theorem facG_pos {s : Int} (h : inG s = true) : inG (facG s) = true := by
  rw [inG_iff, facG_in h]; omega

theorem facG_inj {s t : Int} (hs : inG s = true) (ht : inG t = true) (h : facG s = facG t) : s = t := by
  rw [facG_in hs, facG_in ht] at h
  have := inG_iff.1 hs
  have := inG_iff.1 ht
  omega

theorem mulG_one {a : Int} (ha : inG a = true) : mulG a 1 = a := by
  rw [mulG_in ha (by decide)]
  have := inG_iff.1 ha
  omega

theorem el_in (n : Int) : inG (1 + n % 996) = true := by
  rw [inG_iff]; omega

end Go.Proofs.Ytjdkhloijddjjab.Gm
