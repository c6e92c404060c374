/-
  Several parts of the proof in one text.
-/
/-
  Plain arithmetic of the group of 997 numbers: products and factors, on Lean's own integers. Nothing of any program.
-/
namespace Go.Proofs.Ytnjcpbkpcmemeac.Gm

def inG (n : Int) : Bool := decide (1 ≤ n ∧ n ≤ 996)
def mulG (a b : Int) : Int := bif inG a && inG b then a * b % 997 else 0
def facG (s : Int) : Int := bif inG s then 1 + (7 * s + 3) % 996 else 0

theorem inG_iff {n : Int} : inG n = true ↔ 1 ≤ n ∧ n ≤ 996 := by unfold inG; simp
theorem inG_no {n : Int} : inG n = false ↔ ¬ (1 ≤ n ∧ n ≤ 996) := by unfold inG; simp

theorem mulG_in {a b : Int} (ha : inG a = true) (hb : inG b = true) : mulG a b = a * b % 997 := by simp [mulG, ha, hb]
theorem mulG_out1 {a b : Int} (ha : inG a = false) : mulG a b = 0 := by simp [mulG, ha]
theorem mulG_out2 {a b : Int} (hb : inG b = false) : mulG a b = 0 := by simp [mulG, hb]
theorem mulG_comm (a b : Int) : mulG a b = mulG b a := by
  unfold mulG; rw [Bool.and_comm, Int.mul_comm]
theorem mulG_bd (a b : Int) : 0 ≤ mulG a b ∧ mulG a b ≤ 996 := by
  unfold mulG; cases inG a && inG b <;> simp <;> omega
theorem facG_in {s : Int} (h : inG s = true) : facG s = 1 + (7 * s + 3) % 996 := by simp [facG, h]
theorem facG_out {s : Int} (h : inG s = false) : facG s = 0 := by simp [facG, h]
theorem facG_bd (s : Int) : 0 ≤ facG s ∧ facG s ≤ 996 := by
  unfold facG; cases inG s <;> simp <;> omega

theorem cop : ∀ a : Fin 997, a.val ≠ 0 → Nat.gcd 997 a.val = 1 := by decide +kernel

theorem euclid {a c : Int} (ha : 1 ≤ a ∧ a ≤ 996) (h : (a * c) % 997 = 0) : c % 997 = 0 := by
  have hd : (997 : Int) ∣ a * c := Int.dvd_of_emod_eq_zero h
  have hn : (997 : Nat) ∣ a.natAbs * c.natAbs := by
    have := Int.natAbs_dvd_natAbs.2 hd
    simpa [Int.natAbs_mul] using this
  have hg : Nat.gcd 997 a.natAbs = 1 := cop ⟨a.natAbs, by omega⟩ (by simp; omega)
  have hc : (997 : Nat) ∣ c.natAbs := Nat.Coprime.dvd_of_dvd_mul_left hg hn
  have : (997 : Int) ∣ c := by
    have := Int.natAbs_dvd_natAbs (a := 997) (b := c)
    exact this.1 (by simpa using hc)
  exact Int.emod_eq_zero_of_dvd this

theorem mulG_pos {a b : Int} (ha : inG a = true) (hb : inG b = true) : inG (mulG a b) = true := by
  rw [inG_iff]
  have h1 := mulG_bd a b
  refine ⟨?_, h1.2⟩
  have : mulG a b ≠ 0 := by
    rw [mulG_in ha hb]
    intro h
    have := euclid (inG_iff.1 ha) h
    have := inG_iff.1 hb
    omega
  omega

theorem mulG_inj {a b c : Int} (ha : inG a = true) (hb : inG b = true) (hc : inG c = true) (h : mulG a b = mulG a c) : b = c := by
  rw [mulG_in ha hb, mulG_in ha hc] at h
  have h2 : (a * (b - c)) % 997 = 0 := by
    rw [Int.mul_sub]; omega
  have := euclid (inG_iff.1 ha) h2
  have := inG_iff.1 hb
  have := inG_iff.1 hc
  omega

theorem mulG_assoc {a b c : Int} (ha : inG a = true) (hb : inG b = true) (hc : inG c = true) : mulG a (mulG b c) = mulG (mulG a b) c := by
  rw [mulG_in ha (mulG_pos hb hc), mulG_in (mulG_pos ha hb) hc, mulG_in hb hc, mulG_in ha hb]
  have e1 : a * (b * c % 997) % 997 = a * (b * c) % 997 := by
    rw [Int.mul_emod a (b * c % 997), Int.emod_emod_of_dvd _ (Int.dvd_refl _), ← Int.mul_emod]
  have e2 : a * b % 997 * c % 997 = a * b * c % 997 := by
    rw [Int.mul_emod (a * b % 997) c, Int.emod_emod_of_dvd _ (Int.dvd_refl _), ← Int.mul_emod]
  rw [e1, e2, Int.mul_assoc]

theorem facG_pos {s : Int} (h : inG s = true) : inG (facG s) = true := by
  rw [inG_iff, facG_in h]; omega

theorem facG_inj {s t : Int} (hs : inG s = true) (ht : inG t = true) (h : facG s = facG t) : s = t := by
  rw [facG_in hs, facG_in ht] at h
  have := inG_iff.1 hs
  have := inG_iff.1 ht
  omega

theorem mulG_one {a : Int} (ha : inG a = true) : mulG a 1 = a := by
  rw [mulG_in ha (by decide)]
  have := inG_iff.1 ha
  omega

theorem el_in (n : Int) : inG (1 + n % 996) = true := by
  rw [inG_iff]; omega

end Go.Proofs.Ytnjcpbkpcmemeac.Gm

/-
  Plain arithmetic of the masks: streams, masking on and off, on lists of integers. Nothing of any program.
-/
namespace Go.Proofs.Ytnjcpbkpcmemeac.Mm
open Gm

def inN (x : Int) : Bool := decide (0 ≤ x ∧ x ≤ 990)
theorem inN_iff {x : Int} : inN x = true ↔ 0 ≤ x ∧ x ≤ 990 := by unfold inN; simp
theorem inN_no {x : Int} : inN x = false ↔ ¬ (0 ≤ x ∧ x ≤ 990) := by unfold inN; simp
/-- A list is valid. -/
def okL (xs : List Int) : Bool := xs.all inN && decide (xs.length ≤ 24)
/-- The number with index i of the stream of a key. -/
def at2 (key : Int) (i : Nat) : Int := (key * ((i : Int) + 2) + 11 * (i : Int) * (i : Int) + 5) % 991
def strL (key : Int) (n : Nat) : List Int := (List.range n).map (at2 key)
def onL (xs : List Int) (key : Int) : List Int := xs.mapIdx fun i x => (x + at2 key i) % 991
def offL (xs : List Int) (key : Int) : List Int := xs.mapIdx fun i x => (x + 991 - at2 key i) % 991
def streamF (key n : Int) : List Int := bif inG key && decide (0 ≤ n ∧ n ≤ 24) then strL key n.toNat else []
def onF (xs : List Int) (key : Int) : List Int := bif okL xs && inG key then onL xs key else []
def offF (xs : List Int) (key : Int) : List Int := bif okL xs && inG key then offL xs key else []

theorem okL_iff {xs : List Int} : okL xs = true ↔ (∀ x ∈ xs, 0 ≤ x ∧ x ≤ 990) ∧ xs.length ≤ 24 := by
  unfold okL; simp [inN_iff]
theorem at2_bd (key : Int) (i : Nat) : 0 ≤ at2 key i ∧ at2 key i ≤ 990 := by unfold at2; omega

theorem strL_len (key : Int) (n : Nat) : (strL key n).length = n := by simp [strL]
theorem strL_succ (key : Int) (n : Nat) : strL key (n + 1) = strL key n ++ [at2 key n] := by simp [strL, List.range_succ]
theorem onL_len (xs : List Int) (key : Int) : (onL xs key).length = xs.length := by simp [onL]
theorem offL_len (xs : List Int) (key : Int) : (offL xs key).length = xs.length := by simp [offL]
theorem take_succ_getD {xs : List Int} {k : Nat} (h : k < xs.length) : xs.take (k + 1) = xs.take k ++ [xs.getD k 0] := by
  rw [List.take_succ_eq_append_getElem h, List.getD_eq_getElem?_getD, List.getElem?_eq_getElem h]; rfl
theorem onL_succ {xs : List Int} {k : Nat} (key : Int) (h : k < xs.length) : onL (xs.take (k + 1)) key = onL (xs.take k) key ++ [(xs.getD k 0 + at2 key k) % 991] := by
  rw [take_succ_getD h]; unfold onL; rw [List.mapIdx_append]; simp [Nat.min_eq_left (Nat.le_of_lt h)]
theorem offL_succ {xs : List Int} {k : Nat} (key : Int) (h : k < xs.length) : offL (xs.take (k + 1)) key = offL (xs.take k) key ++ [(xs.getD k 0 + 991 - at2 key k) % 991] := by
  rw [take_succ_getD h]; unfold offL; rw [List.mapIdx_append]; simp [Nat.min_eq_left (Nat.le_of_lt h)]

theorem getD_mem {xs : List Int} {k : Nat} (h : k < xs.length) : xs.getD k 0 ∈ xs := by
  rw [List.getD_eq_getElem?_getD, List.getElem?_eq_getElem h]; exact List.getElem_mem h
theorem okL_at {xs : List Int} (h : okL xs = true) {k : Nat} (hk : k < xs.length) : 0 ≤ xs.getD k 0 ∧ xs.getD k 0 ≤ 990 := (okL_iff.1 h).1 _ (getD_mem hk)

/-- For a loop that looks at each number: none of the first k is out of range. -/
def okTo (xs : List Int) (k : Nat) : Prop := ∀ j, j < k → inN (xs.getD j 0) = true
theorem okTo_zero (xs : List Int) : okTo xs 0 := fun j h => absurd h (by omega)
theorem okTo_succ {xs : List Int} {k : Nat} (h : okTo xs k) (hk : inN (xs.getD k 0) = true) : okTo xs (k + 1) := fun j hj => by
  by_cases e : j = k
  · subst e; exact hk
  · exact h j (by omega)
theorem okL_of_to {xs : List Int} (h : okTo xs xs.length) : okL xs = decide (xs.length ≤ 24) := by
  have : xs.all inN = true := by
    rw [List.all_eq_true]
    intro x hx
    obtain ⟨j, hj, e⟩ := List.getElem_of_mem hx
    have := h j hj
    rwa [List.getD_eq_getElem?_getD, List.getElem?_eq_getElem hj, Option.getD_some, e] at this
  simp [okL, this]
theorem okL_bad {xs : List Int} {k : Nat} (hk : k < xs.length) (h : inN (xs.getD k 0) = false) : okL xs = false := by
  have : xs.all inN = false := by
    rw [List.all_eq_false]
    exact ⟨_, getD_mem hk, by rw [h]; decide⟩
  simp [okL, this]

theorem streamF_yes {key n : Int} (h : inG key = true) (h0 : 0 ≤ n) (h1 : n ≤ 24) : streamF key n = strL key n.toNat := by simp [streamF, h, h0, h1]
theorem streamF_no1 {key n : Int} (h : inG key = false) : streamF key n = [] := by simp [streamF, h]
theorem streamF_no2 {key n : Int} (h : ¬ (0 ≤ n ∧ n ≤ 24)) : streamF key n = [] := by unfold streamF; rw [decide_eq_false h]; simp
theorem onF_yes {xs : List Int} {key : Int} (h : okL xs = true) (h1 : inG key = true) : onF xs key = onL xs key := by simp [onF, h, h1]
theorem offF_yes {xs : List Int} {key : Int} (h : okL xs = true) (h1 : inG key = true) : offF xs key = offL xs key := by simp [offF, h, h1]
theorem onF_no1 {xs : List Int} {key : Int} (h : okL xs = false) : onF xs key = [] := by simp [onF, h]
theorem offF_no1 {xs : List Int} {key : Int} (h : okL xs = false) : offF xs key = [] := by simp [offF, h]
theorem onF_no2 {xs : List Int} {key : Int} (h : inG key = false) : onF xs key = [] := by simp [onF, h]
theorem offF_no2 {xs : List Int} {key : Int} (h : inG key = false) : offF xs key = [] := by simp [offF, h]
theorem streamF_len (key n : Int) : (streamF key n).length ≤ 24 := by
  unfold streamF
  cases h : (inG key && decide (0 ≤ n ∧ n ≤ 24))
  · simp
  · simp at h; simp [strL_len]; omega
theorem onF_len (xs : List Int) (key : Int) : (onF xs key).length ≤ 24 := by
  unfold onF
  cases h : (okL xs && inG key)
  · simp
  · simp at h; simp [onL_len]; exact (okL_iff.1 h.1).2
theorem offF_len (xs : List Int) (key : Int) : (offF xs key).length ≤ 24 := by
  unfold offF
  cases h : (okL xs && inG key)
  · simp
  · simp at h; simp [offL_len]; exact (okL_iff.1 h.1).2

theorem okL_get {xs : List Int} (h : okL xs = true) {k : Nat} (hk : k < xs.length) : 0 ≤ xs[k] ∧ xs[k] ≤ 990 := (okL_iff.1 h).1 _ (List.getElem_mem hk)
theorem okL_of {xs : List Int} (h : ∀ k (hk : k < xs.length), 0 ≤ xs[k] ∧ xs[k] ≤ 990) (hl : xs.length ≤ 24) : okL xs = true :=
  okL_iff.2 ⟨fun x hx => by obtain ⟨j, hj, e⟩ := List.getElem_of_mem hx; subst e; exact h j hj, hl⟩
theorem onL_ok {xs : List Int} (key : Int) (hl : xs.length ≤ 24) : okL (onL xs key) = true :=
  okL_of (fun k hk => by simp only [onL, List.getElem_mapIdx]; omega) (by rw [onL_len]; exact hl)
theorem offL_ok {xs : List Int} (key : Int) (hl : xs.length ≤ 24) : okL (offL xs key) = true :=
  okL_of (fun k hk => by simp only [offL, List.getElem_mapIdx]; omega) (by rw [offL_len]; exact hl)
theorem strL_ok (key : Int) {n : Nat} (hl : n ≤ 24) : okL (strL key n) = true :=
  okL_of (fun k hk => by simp only [strL, List.getElem_map, List.getElem_range]; exact at2_bd _ _) (by rw [strL_len]; exact hl)
theorem off_on {xs : List Int} (key : Int) (h : okL xs = true) : offL (onL xs key) key = xs := by
  apply List.ext_getElem (by rw [offL_len, onL_len])
  intro k h1 h2
  have := okL_get h h2
  have := at2_bd key k
  simp only [offL, onL, List.getElem_mapIdx]
  omega
theorem on_off {xs : List Int} (key : Int) (h : okL xs = true) : onL (offL xs key) key = xs := by
  apply List.ext_getElem (by rw [onL_len, offL_len])
  intro k h1 h2
  have := okL_get h h2
  have := at2_bd key k
  simp only [offL, onL, List.getElem_mapIdx]
  omega
theorem on_on (xs : List Int) (k key : Int) : onL (onL xs k) key = onL (onL xs key) k := by
  apply List.ext_getElem (by simp only [onL_len])
  intro j h1 h2
  simp only [onL, List.getElem_mapIdx]
  omega
theorem off_off (xs : List Int) (k key : Int) : offL (offL xs k) key = offL (offL xs key) k := by
  apply List.ext_getElem (by simp only [offL_len])
  intro j h1 h2
  have := at2_bd key j
  have := at2_bd k j
  simp only [offL, List.getElem_mapIdx]
  omega
theorem on_zero (key : Int) (n : Nat) : onL (List.replicate n 0) key = strL key n := by
  apply List.ext_getElem (by simp only [onL_len, strL_len, List.length_replicate])
  intro j h1 h2
  have := at2_bd key j
  simp only [onL, strL, List.getElem_mapIdx, List.getElem_replicate, List.getElem_map, List.getElem_range]
  omega
theorem off_str (key : Int) (n : Nat) : offL (strL key n) key = List.replicate n 0 := by
  apply List.ext_getElem (by simp only [offL_len, strL_len, List.length_replicate])
  intro j h1 h2
  have := at2_bd key j
  simp only [offL, strL, List.getElem_mapIdx, List.getElem_replicate, List.getElem_map, List.getElem_range]
  omega
theorem zeros_ok {n : Nat} (h : n ≤ 24) : okL (List.replicate n 0) = true := okL_of (fun k hk => by simp) (by simpa using h)
theorem str_take (key : Int) {k n : Nat} (h : k ≤ n) : (strL key n).take k = strL key k := by
  apply List.ext_getElem (by simp only [List.length_take, strL_len]; omega)
  intro j h1 h2
  simp only [strL, List.getElem_take, List.getElem_map, List.getElem_range]
/-- Streams of keys that differ modulo Numbers differ in the first number and in the second. -/
theorem at2_other {k key : Int} (h : k % 991 ≠ key % 991) : at2 k 0 ≠ at2 key 0 ∧ at2 k 1 ≠ at2 key 1 := by
  unfold at2
  constructor
  · intro e; apply h; simp at e; omega
  · intro e; apply h; simp at e; omega
theorem on_set {xs : List Int} (key : Int) (k : Nat) (y : Int) {j : Nat} (hj : j < xs.length) (hne : j ≠ k) : (onL (xs.set k y) key).getD j 0 = (onL xs key).getD j 0 := by
  rw [List.getD_eq_getElem?_getD, List.getD_eq_getElem?_getD, List.getElem?_eq_getElem (by rw [onL_len, List.length_set]; exact hj), List.getElem?_eq_getElem (by rw [onL_len]; exact hj)]
  simp [onL, List.getElem_set_ne (Ne.symm hne)]
theorem on_set_at {xs : List Int} (key : Int) {k : Nat} {y : Int} (hk : k < xs.length) (hx : okL xs = true) (hy : 0 ≤ y ∧ y ≤ 990) (hne : y ≠ xs.getD k 0) : (onL (xs.set k y) key).getD k 0 ≠ (onL xs key).getD k 0 := by
  have h1 := okL_get hx hk
  have h2 := at2_bd key k
  rw [List.getD_eq_getElem?_getD, List.getElem?_eq_getElem hk] at hne
  rw [List.getD_eq_getElem?_getD, List.getD_eq_getElem?_getD, List.getElem?_eq_getElem (by rw [onL_len, List.length_set]; exact hk), List.getElem?_eq_getElem (by rw [onL_len]; exact hk)]
  simp only [Option.getD_some] at hne
  simp only [onL, List.getElem_mapIdx, List.getElem_set_self, Option.getD_some]
  omega
theorem set_ok {xs : List Int} {k : Nat} {y : Int} (hx : okL xs = true) (hy : 0 ≤ y ∧ y ≤ 990) : okL (xs.set k y) = true := by
  refine okL_iff.2 ⟨fun x h => ?_, by rw [List.length_set]; exact (okL_iff.1 hx).2⟩
  rcases List.mem_or_eq_of_mem_set h with h | h
  · exact (okL_iff.1 hx).1 x h
  · subst h; exact hy

theorem onF_ne {xs : List Int} {key : Int} (h : ¬ onF xs key = []) : okL xs = true ∧ inG key = true := by
  cases h1 : okL xs
  · exact absurd (onF_no1 h1) h
  · cases h2 : inG key
    · exact absurd (onF_no2 h2) h
    · exact ⟨rfl, rfl⟩
theorem offF_ne {xs : List Int} {key : Int} (h : ¬ offF xs key = []) : okL xs = true ∧ inG key = true := by
  cases h1 : okL xs
  · exact absurd (offF_no1 h1) h
  · cases h2 : inG key
    · exact absurd (offF_no2 h2) h
    · exact ⟨rfl, rfl⟩
theorem streamF_ne {key n : Int} (h : ¬ streamF key n = []) : inG key = true ∧ 0 ≤ n ∧ n ≤ 24 := by
  cases h1 : inG key
  · exact absurd (streamF_no1 h1) h
  · by_cases h2 : 0 ≤ n ∧ n ≤ 24
    · exact ⟨rfl, h2.1, h2.2⟩
    · exact absurd (streamF_no2 h2) h
theorem onF_ok {xs : List Int} {key : Int} (h : okL xs = true) (h1 : inG key = true) : okL (onF xs key) = true := by rw [onF_yes h h1]; exact onL_ok key (okL_iff.1 h).2
theorem offF_ok {xs : List Int} {key : Int} (h : okL xs = true) (h1 : inG key = true) : okL (offF xs key) = true := by rw [offF_yes h h1]; exact offL_ok key (okL_iff.1 h).2
theorem offF_onF {xs : List Int} {key : Int} (h : okL xs = true) (h1 : inG key = true) : offF (onF xs key) key = xs := by
  rw [offF_yes (onF_ok h h1) h1, onF_yes h h1, off_on key h]
theorem onF_offF {xs : List Int} {key : Int} (h : okL xs = true) (h1 : inG key = true) : onF (offF xs key) key = xs := by
  rw [onF_yes (offF_ok h h1) h1, offF_yes h h1, on_off key h]
theorem onF_onF {xs : List Int} {key k : Int} (h : okL xs = true) (h1 : inG key = true) (h2 : inG k = true) : onF (onF xs key) k = onF (onF xs k) key := by
  rw [onF_yes (onF_ok h h1) h2, onF_yes (onF_ok h h2) h1, onF_yes h h1, onF_yes h h2, on_on]
theorem offF_offF {xs : List Int} {key k : Int} (h : okL xs = true) (h1 : inG key = true) (h2 : inG k = true) : offF (offF xs k) key = offF (offF xs key) k := by
  rw [offF_yes (offF_ok h h2) h1, offF_yes (offF_ok h h1) h2, offF_yes h h1, offF_yes h h2, off_off]
theorem onF_zeros {key n : Int} (h : inG key = true) (h0 : 0 ≤ n) (h1 : n ≤ 24) : onF (List.replicate n.toNat 0) key = streamF key n := by
  rw [onF_yes (zeros_ok (by omega)) h, streamF_yes h h0 h1, on_zero]
theorem offF_stream {key n : Int} (h : inG key = true) (h0 : 0 ≤ n) (h1 : n ≤ 24) : offF (streamF key n) key = List.replicate n.toNat 0 := by
  rw [streamF_yes h h0 h1, offF_yes (strL_ok key (by omega)) h, off_str]
theorem onF_length {xs : List Int} {key : Int} (h : okL xs = true) (h1 : inG key = true) : (onF xs key).length = xs.length := by rw [onF_yes h h1, onL_len]
theorem offF_length {xs : List Int} {key : Int} (h : okL xs = true) (h1 : inG key = true) : (offF xs key).length = xs.length := by rw [offF_yes h h1, offL_len]
theorem streamF_length {key n : Int} (h : inG key = true) (h0 : 0 ≤ n) (h1 : n ≤ 24) : (streamF key n).length = n.toNat := by rw [streamF_yes h h0 h1, strL_len]

theorem strL_getD (key : Int) {n j : Nat} (h : j < n) : (strL key n).getD j 0 = at2 key j := by
  rw [List.getD_eq_getElem?_getD, List.getElem?_eq_getElem (by rw [strL_len]; exact h)]
  simp [strL]
theorem streamF_getD {key n : Int} (h : inG key = true) (h0 : 0 ≤ n) (h1 : n ≤ 24) {j : Nat} (hj : j < n.toNat) : (streamF key n).getD j 0 = at2 key j := by
  rw [streamF_yes h h0 h1, strL_getD key hj]
theorem streamF_take {key : Int} {q m : Nat} (h : inG key = true) (hm : m ≤ 24) (hq : q ≤ m) : streamF key (q : Int) = (streamF key (m : Int)).take q := by
  rw [streamF_yes h (by omega) (by omega), streamF_yes h (by omega) (by omega), Int.toNat_natCast, Int.toNat_natCast, str_take key hq]
/-- Another number of a list is another number. -/
theorem another_ne (x b : Int) : (0 ≤ (x + 1 + b % 990) % 991 ∧ (x + 1 + b % 990) % 991 ≤ 990) ∧ (x + 1 + b % 990) % 991 ≠ x := by omega

theorem onF_set {xs : List Int} {key y : Int} {k : Nat} (h : okL xs = true) (h1 : inG key = true) (hy : 0 ≤ y ∧ y ≤ 990) (hk : k < xs.length) (hne : y ≠ xs.getD k 0) :
    (onF (xs.set k y) key).length = (onF xs key).length ∧ (∀ j, j < xs.length → j ≠ k → (onF (xs.set k y) key).getD j 0 = (onF xs key).getD j 0) ∧ (onF (xs.set k y) key).getD k 0 ≠ (onF xs key).getD k 0 := by
  rw [onF_yes h h1, onF_yes (set_ok h hy) h1]
  exact ⟨by rw [onL_len, onL_len, List.length_set], fun j hj hn => on_set key k y hj hn, on_set_at key hk h hy hne⟩

theorem okL_take {xs : List Int} (h : okL xs = true) (k : Nat) : okL (xs.take k) = true :=
  okL_iff.2 ⟨fun x hx => (okL_iff.1 h).1 x (List.mem_of_mem_take hx), by have := (okL_iff.1 h).2; rw [List.length_take]; omega⟩

end Go.Proofs.Ytnjcpbkpcmemeac.Mm
