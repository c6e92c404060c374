/-
  Several parts of the proof in one text.
-/
/-
  Plain arithmetic of the group of 997 numbers: products and factors, on Lean's own integers. Nothing of any program.
-/
namespace Go.Proofs.Ytdngdmhepjjeeaa.Gm

def inG (n : Int) : Bool := decide (1 ≤ n ∧ n ≤ 996)
def mulG (a b : Int) : Int := bif inG a && inG b then a * b % 997 else 0
def facG (s : Int) : Int := bif inG s then 1 + (7 * s + 3) % 996 else 0

theorem inG_iff {n : Int} : inG n = true ↔ 1 ≤ n ∧ n ≤ 996 := by unfold inG; simp
theorem inG_no {n : Int} : inG n = false ↔ ¬ (1 ≤ n ∧ n ≤ 996) := by unfold inG; simp

theorem mulG_in {a b : Int} (ha : inG a = true) (hb : inG b = true) : mulG a b = a * b % 997 := by simp [mulG, ha, hb]
theorem mulG_out1 {a b : Int} (ha : inG a = false) : mulG a b = 0 := by simp [mulG, ha]
theorem mulG_out2 {a b : Int} (hb : inG b = false) : mulG a b = 0 := by simp [mulG, hb]
theorem mulG_comm (a b : Int) : mulG a b = mulG b a := by
  unfold mulG; rw [Bool.and_comm, Int.mul_comm]
theorem mulG_bd (a b : Int) : 0 ≤ mulG a b ∧ mulG a b ≤ 996 := by
  unfold mulG; cases inG a && inG b <;> simp <;> omega
theorem facG_in {s : Int} (h : inG s = true) : facG s = 1 + (7 * s + 3) % 996 := by simp [facG, h]
theorem facG_out {s : Int} (h : inG s = false) : facG s = 0 := by simp [facG, h]
theorem facG_bd (s : Int) : 0 ≤ facG s ∧ facG s ≤ 996 := by
  unfold facG; cases inG s <;> simp <;> omega

theorem cop : ∀ a : Fin 997, a.val ≠ 0 → Nat.gcd 997 a.val = 1 := by decide +kernel

theorem euclid {a c : Int} (ha : 1 ≤ a ∧ a ≤ 996) (h : (a * c) % 997 = 0) : c % 997 = 0 := by
  have hd : (997 : Int) ∣ a * c := Int.dvd_of_emod_eq_zero h
  have hn : (997 : Nat) ∣ a.natAbs * c.natAbs := by
    have := Int.natAbs_dvd_natAbs.2 hd
    simpa [Int.natAbs_mul] using this
  have hg : Nat.gcd 997 a.natAbs = 1 := cop ⟨a.natAbs, by omega⟩ (by simp; omega)
  have hc : (997 : Nat) ∣ c.natAbs := Nat.Coprime.dvd_of_dvd_mul_left hg hn
  have : (997 : Int) ∣ c := by
    have := Int.natAbs_dvd_natAbs (a := 997) (b := c)
    exact this.1 (by simpa using hc)
  exact Int.emod_eq_zero_of_dvd this

theorem mulG_pos {a b : Int} (ha : inG a = true) (hb : inG b = true) : inG (mulG a b) = true := by
  rw [inG_iff]
  have h1 := mulG_bd a b
  refine ⟨?_, h1.2⟩
  have : mulG a b ≠ 0 := by
    rw [mulG_in ha hb]
    intro h
    have := euclid (inG_iff.1 ha) h
    have := inG_iff.1 hb
    omega
  omega

theorem mulG_inj {a b c : Int} (ha : inG a = true) (hb : inG b = true) (hc : inG c = true) (h : mulG a b = mulG a c) : b = c := by
  rw [mulG_in ha hb, mulG_in ha hc] at h
  have h2 : (a * (b - c)) % 997 = 0 := by
    rw [Int.mul_sub]; omega
  have := euclid (inG_iff.1 ha) h2
  have := inG_iff.1 hb
  have := inG_iff.1 hc
  omega

theorem mulG_assoc {a b c : Int} (ha : inG a = true) (hb : inG b = true) (hc : inG c = true) : mulG a (mulG b c) = mulG (mulG a b) c := by
  rw [mulG_in ha (mulG_pos hb hc), mulG_in (mulG_pos ha hb) hc, mulG_in hb hc, mulG_in ha hb]
  have e1 : a * (b * c % 997) % 997 = a * (b * c) % 997 := by
    rw [Int.mul_emod a (b * c % 997), Int.emod_emod_of_dvd _ (Int.dvd_refl _), ← Int.mul_emod]
  have e2 : a * b % 997 * c % 997 = a * b * c % 997 := by
    rw [Int.mul_emod (a * b % 997) c, Int.emod_emod_of_dvd _ (Int.dvd_refl _), ← Int.mul_emod]
  rw [e1, e2, Int.mul_assoc]

theorem facG_pos {s : Int} (h : inG s = true) : inG (facG s) = true := by
  rw [inG_iff, facG_in h]; omega

theorem facG_inj {s t : Int} (hs : inG s = true) (ht : inG t = true) (h : facG s = facG t) : s = t := by
  rw [facG_in hs, facG_in ht] at h
  have := inG_iff.1 hs
  have := inG_iff.1 ht
  omega

theorem mulG_one {a : Int} (ha : inG a = true) : mulG a 1 = a := by
  rw [mulG_in ha (by decide)]
  have := inG_iff.1 ha
  omega

theorem el_in (n : Int) : inG (1 + n % 996) = true := by
  rw [inG_iff]; omega

end Go.Proofs.Ytdngdmhepjjeeaa.Gm

/-
  Plain arithmetic of the masks: streams, masking on and off, on lists of integers. Nothing of any program.
-/
namespace Go.Proofs.Ytdngdmhepjjeeaa.Mm
open Gm

def inN (x : Int) : Bool := decide (0 ≤ x ∧ x ≤ 990)
theorem inN_iff {x : Int} : inN x = true ↔ 0 ≤ x ∧ x ≤ 990 := by unfold inN; simp
theorem inN_no {x : Int} : inN x = false ↔ ¬ (0 ≤ x ∧ x ≤ 990) := by unfold inN; simp
/-- A list is valid. -/
def okL (xs : List Int) : Bool := xs.all inN && decide (xs.length ≤ 24)
/-- The number with index i of the stream of a key. -/
def at2 (key : Int) (i : Nat) : Int := (key * ((i : Int) + 2) + 11 * (i : Int) * (i : Int) + 5) % 991
def strL (key : Int) (n : Nat) : List Int := (List.range n).map (at2 key)
def onL (xs : List Int) (key : Int) : List Int := xs.mapIdx fun i x => (x + at2 key i) % 991
def offL (xs : List Int) (key : Int) : List Int := xs.mapIdx fun i x => (x + 991 - at2 key i) % 991
def streamF (key n : Int) : List Int := bif inG key && decide (0 ≤ n ∧ n ≤ 24) then strL key n.toNat else []
def onF (xs : List Int) (key : Int) : List Int := bif okL xs && inG key then onL xs key else []
def offF (xs : List Int) (key : Int) : List Int := bif okL xs && inG key then offL xs key else []

theorem okL_iff {xs : List Int} : okL xs = true ↔ (∀ x ∈ xs, 0 ≤ x ∧ x ≤ 990) ∧ xs.length ≤ 24 := by
  unfold okL; simp [inN_iff]
theorem at2_bd (key : Int) (i : Nat) : 0 ≤ at2 key i ∧ at2 key i ≤ 990 := by unfold at2; omega

theorem strL_len (key : Int) (n : Nat) : (strL key n).length = n := by simp [strL]
theorem strL_succ (key : Int) (n : Nat) : strL key (n + 1) = strL key n ++ [at2 key n] := by simp [strL, List.range_succ]
theorem onL_len (xs : List Int) (key : Int) : (onL xs key).length = xs.length := by simp [onL]
theorem offL_len (xs : List Int) (key : Int) : (offL xs key).length = xs.length := by simp [offL]
theorem take_succ_getD {xs : List Int} {k : Nat} (h : k < xs.length) : xs.take (k + 1) = xs.take k ++ [xs.getD k 0] := by
  rw [List.take_succ_eq_append_getElem h, List.getD_eq_getElem?_getD, List.getElem?_eq_getElem h]; rfl
theorem onL_succ {xs : List Int} {k : Nat} (key : Int) (h : k < xs.length) : onL (xs.take (k + 1)) key = onL (xs.take k) key ++ [(xs.getD k 0 + at2 key k) % 991] := by
  rw [take_succ_getD h]; unfold onL; rw [List.mapIdx_append]; simp [Nat.min_eq_left (Nat.le_of_lt h)]
theorem offL_succ {xs : List Int} {k : Nat} (key : Int) (h : k < xs.length) : offL (xs.take (k + 1)) key = offL (xs.take k) key ++ [(xs.getD k 0 + 991 - at2 key k) % 991] := by
  rw [take_succ_getD h]; unfold offL; rw [List.mapIdx_append]; simp [Nat.min_eq_left (Nat.le_of_lt h)]

theorem getD_mem {xs : List Int} {k : Nat} (h : k < xs.length) : xs.getD k 0 ∈ xs := by
  rw [List.getD_eq_getElem?_getD, List.getElem?_eq_getElem h]; exact List.getElem_mem h
theorem okL_at {xs : List Int} (h : okL xs = true) {k : Nat} (hk : k < xs.length) : 0 ≤ xs.getD k 0 ∧ xs.getD k 0 ≤ 990 := (okL_iff.1 h).1 _ (getD_mem hk)

/-- For a loop that looks at each number: none of the first k is out of range. -/
def okTo (xs : List Int) (k : Nat) : Prop := ∀ j, j < k → inN (xs.getD j 0) = true
theorem okTo_zero (xs : List Int) : okTo xs 0 := fun j h => absurd h (by omega)
theorem okTo_succ {xs : List Int} {k : Nat} (h : okTo xs k) (hk : inN (xs.getD k 0) = true) : okTo xs (k + 1) := fun j hj => by
  by_cases e : j = k
  · subst e; exact hk
  · exact h j (by omega)
theorem okL_of_to {xs : List Int} (h : okTo xs xs.length) : okL xs = decide (xs.length ≤ 24) := by
  have : xs.all inN = true := by
    rw [List.all_eq_true]
    intro x hx
    obtain ⟨j, hj, e⟩ := List.getElem_of_mem hx
    have := h j hj
    rwa [List.getD_eq_getElem?_getD, List.getElem?_eq_getElem hj, Option.getD_some, e] at this
  simp [okL, this]
theorem okL_bad {xs : List Int} {k : Nat} (hk : k < xs.length) (h : inN (xs.getD k 0) = false) : okL xs = false := by
  have : xs.all inN = false := by
    rw [List.all_eq_false]
    exact ⟨_, getD_mem hk, by rw [h]; decide⟩
  simp [okL, this]

theorem streamF_yes {key n : Int} (h : inG key = true) (h0 : 0 ≤ n) (h1 : n ≤ 24) : streamF key n = strL key n.toNat := by simp [streamF, h, h0, h1]
theorem streamF_no1 {key n : Int} (h : inG key = false) : streamF key n = [] := by simp [streamF, h]
theorem streamF_no2 {key n : Int} (h : ¬ (0 ≤ n ∧ n ≤ 24)) : streamF key n = [] := by unfold streamF; rw [decide_eq_false h]; simp
theorem onF_yes {xs : List Int} {key : Int} (h : okL xs = true) (h1 : inG key = true) : onF xs key = onL xs key := by simp [onF, h, h1]
theorem offF_yes {xs : List Int} {key : Int} (h : okL xs = true) (h1 : inG key = true) : offF xs key = offL xs key := by simp [offF, h, h1]
theorem onF_no1 {xs : List Int} {key : Int} (h : okL xs = false) : onF xs key = [] := by simp [onF, h]
theorem offF_no1 {xs : List Int} {key : Int} (h : okL xs = false) : offF xs key = [] := by simp [offF, h]
theorem onF_no2 {xs : List Int} {key : Int} (h : inG key = false) : onF xs key = [] := by simp [onF, h]
theorem offF_no2 {xs : List Int} {key : Int} (h : inG key = false) : offF xs key = [] := by simp [offF, h]
theorem streamF_len (key n : Int) : (streamF key n).length ≤ 24 := by
  unfold streamF
  cases h : (inG key && decide (0 ≤ n ∧ n ≤ 24))
  · simp
  · simp at h; simp [strL_len]; omega
theorem onF_len (xs : List Int) (key : Int) : (onF xs key).length ≤ 24 := by
  unfold onF
  cases h : (okL xs && inG key)
  · simp
  · simp at h; simp [onL_len]; exact (okL_iff.1 h.1).2
theorem offF_len (xs : List Int) (key : Int) : (offF xs key).length ≤ 24 := by
  unfold offF
  cases h : (okL xs && inG key)
  · simp
  · simp at h; simp [offL_len]; exact (okL_iff.1 h.1).2

theorem okL_get {xs : List Int} (h : okL xs = true) {k : Nat} (hk : k < xs.length) : 0 ≤ xs[k] ∧ xs[k] ≤ 990 := (okL_iff.1 h).1 _ (List.getElem_mem hk)
theorem okL_of {xs : List Int} (h : ∀ k (hk : k < xs.length), 0 ≤ xs[k] ∧ xs[k] ≤ 990) (hl : xs.length ≤ 24) : okL xs = true :=
  okL_iff.2 ⟨fun x hx => by obtain ⟨j, hj, e⟩ := List.getElem_of_mem hx; subst e; exact h j hj, hl⟩
theorem onL_ok {xs : List Int} (key : Int) (hl : xs.length ≤ 24) : okL (onL xs key) = true :=
  okL_of (fun k hk => by simp only [onL, List.getElem_mapIdx]; omega) (by rw [onL_len]; exact hl)
theorem offL_ok {xs : List Int} (key : Int) (hl : xs.length ≤ 24) : okL (offL xs key) = true :=
  okL_of (fun k hk => by simp only [offL, List.getElem_mapIdx]; omega) (by rw [offL_len]; exact hl)
theorem strL_ok (key : Int) {n : Nat} (hl : n ≤ 24) : okL (strL key n) = true :=
  okL_of (fun k hk => by simp only [strL, List.getElem_map, List.getElem_range]; exact at2_bd _ _) (by rw [strL_len]; exact hl)
theorem off_on {xs : List Int} (key : Int) (h : okL xs = true) : offL (onL xs key) key = xs := by
  apply List.ext_getElem (by rw [offL_len, onL_len])
  intro k h1 h2
  have := okL_get h h2
  have := at2_bd key k
  simp only [offL, onL, List.getElem_mapIdx]
  omega
theorem on_off {xs : List Int} (key : Int) (h : okL xs = true) : onL (offL xs key) key = xs := by
  apply List.ext_getElem (by rw [onL_len, offL_len])
  intro k h1 h2
  have := okL_get h h2
  have := at2_bd key k
  simp only [offL, onL, List.getElem_mapIdx]
  omega
theorem on_on (xs : List Int) (k key : Int) : onL (onL xs k) key = onL (onL xs key) k := by
  apply List.ext_getElem (by simp only [onL_len])
  intro j h1 h2
  simp only [onL, List.getElem_mapIdx]
  omega
theorem off_off (xs : List Int) (k key : Int) : offL (offL xs k) key = offL (offL xs key) k := by
  apply List.ext_getElem (by simp only [offL_len])
  intro j h1 h2
  have := at2_bd key j
  have := at2_bd k j
  simp only [offL, List.getElem_mapIdx]
  omega
theorem on_zero (key : Int) (n : Nat) : onL (List.replicate n 0) key = strL key n := by
  apply List.ext_getElem (by simp only [onL_len, strL_len, List.length_replicate])
  intro j h1 h2
  have := at2_bd key j
  simp only [onL, strL, List.getElem_mapIdx, List.getElem_replicate, List.getElem_map, List.getElem_range]
  omega
theorem off_str (key : Int) (n : Nat) : offL (strL key n) key = List.replicate n 0 := by
  apply List.ext_getElem (by simp only [offL_len, strL_len, List.length_replicate])
  intro j h1 h2
  have := at2_bd key j
  simp only [offL, strL, List.getElem_mapIdx, List.getElem_replicate, List.getElem_map, List.getElem_range]
  omega
theorem zeros_ok {n : Nat} (h : n ≤ 24) : okL (List.replicate n 0) = true := okL_of (fun k hk => by simp) (by simpa using h)
theorem str_take (key : Int) {k n : Nat} (h : k ≤ n) : (strL key n).take k = strL key k := by
  apply List.ext_getElem (by simp only [List.length_take, strL_len]; omega)
  intro j h1 h2
  simp only [strL, List.getElem_take, List.getElem_map, List.getElem_range]
/-- Streams of keys that differ modulo Numbers differ in the first number and in the second. -/
theorem at2_other {k key : Int} (h : k % 991 ≠ key % 991) : at2 k 0 ≠ at2 key 0 ∧ at2 k 1 ≠ at2 key 1 := by
  unfold at2
  constructor
  · intro e; apply h; simp at e; omega
  · intro e; apply h; simp at e; omega
theorem on_set {xs : List Int} (key : Int) (k : Nat) (y : Int) {j : Nat} (hj : j < xs.length) (hne : j ≠ k) : (onL (xs.set k y) key).getD j 0 = (onL xs key).getD j 0 := by
  rw [List.getD_eq_getElem?_getD, List.getD_eq_getElem?_getD, List.getElem?_eq_getElem (by rw [onL_len, List.length_set]; exact hj), List.getElem?_eq_getElem (by rw [onL_len]; exact hj)]
  simp [onL, List.getElem_set_ne (Ne.symm hne)]
theorem on_set_at {xs : List Int} (key : Int) {k : Nat} {y : Int} (hk : k < xs.length) (hx : okL xs = true) (hy : 0 ≤ y ∧ y ≤ 990) (hne : y ≠ xs.getD k 0) : (onL (xs.set k y) key).getD k 0 ≠ (onL xs key).getD k 0 := by
  have h1 := okL_get hx hk
  have h2 := at2_bd key k
  rw [List.getD_eq_getElem?_getD, List.getElem?_eq_getElem hk] at hne
  rw [List.getD_eq_getElem?_getD, List.getD_eq_getElem?_getD, List.getElem?_eq_getElem (by rw [onL_len, List.length_set]; exact hk), List.getElem?_eq_getElem (by rw [onL_len]; exact hk)]
  simp only [Option.getD_some] at hne
  simp only [onL, List.getElem_mapIdx, List.getElem_set_self, Option.getD_some]
  omega
theorem set_ok {xs : List Int} {k : Nat} {y : Int} (hx : okL xs = true) (hy : 0 ≤ y ∧ y ≤ 990) : okL (xs.set k y) = true := by
  refine okL_iff.2 ⟨fun x h => ?_, by rw [List.length_set]; exact (okL_iff.1 hx).2⟩
  rcases List.mem_or_eq_of_mem_set h with h | h
  · exact (okL_iff.1 hx).1 x h
  · subst h; exact hy

theorem onF_ne {xs : List Int} {key : Int} (h : ¬ onF xs key = []) : okL xs = true ∧ inG key = true := by
  cases h1 : okL xs
  · exact absurd (onF_no1 h1) h
  · cases h2 : inG key
    · exact absurd (onF_no2 h2) h
    · exact ⟨rfl, rfl⟩
theorem offF_ne {xs : List Int} {key : Int} (h : ¬ offF xs key = []) : okL xs = true ∧ inG key = true := by
  cases h1 : okL xs
  · exact absurd (offF_no1 h1) h
  · cases h2 : inG key
    · exact absurd (offF_no2 h2) h
    · exact ⟨rfl, rfl⟩
theorem streamF_ne {key n : Int} (h : ¬ streamF key n = []) : inG key = true ∧ 0 ≤ n ∧ n ≤ 24 := by
  cases h1 : inG key
  · exact absurd (streamF_no1 h1) h
  · by_cases h2 : 0 ≤ n ∧ n ≤ 24
    · exact ⟨rfl, h2.1, h2.2⟩
    · exact absurd (streamF_no2 h2) h
theorem onF_ok {xs : List Int} {key : Int} (h : okL xs = true) (h1 : inG key = true) : okL (onF xs key) = true := by rw [onF_yes h h1]; exact onL_ok key (okL_iff.1 h).2
theorem offF_ok {xs : List Int} {key : Int} (h : okL xs = true) (h1 : inG key = true) : okL (offF xs key) = true := by rw [offF_yes h h1]; exact offL_ok key (okL_iff.1 h).2
theorem offF_onF {xs : List Int} {key : Int} (h : okL xs = true) (h1 : inG key = true) : offF (onF xs key) key = xs := by
  rw [offF_yes (onF_ok h h1) h1, onF_yes h h1, off_on key h]
theorem onF_offF {xs : List Int} {key : Int} (h : okL xs = true) (h1 : inG key = true) : onF (offF xs key) key = xs := by
  rw [onF_yes (offF_ok h h1) h1, offF_yes h h1, on_off key h]
theorem onF_onF {xs : List Int} {key k : Int} (h : okL xs = true) (h1 : inG key = true) (h2 : inG k = true) : onF (onF xs key) k = onF (onF xs k) key := by
  rw [onF_yes (onF_ok h h1) h2, onF_yes (onF_ok h h2) h1, onF_yes h h1, onF_yes h h2, on_on]
theorem offF_offF {xs : List Int} {key k : Int} (h : okL xs = true) (h1 : inG key = true) (h2 : inG k = true) : offF (offF xs k) key = offF (offF xs key) k := by
  rw [offF_yes (offF_ok h h2) h1, offF_yes (offF_ok h h1) h2, offF_yes h h1, offF_yes h h2, off_off]
theorem onF_zeros {key n : Int} (h : inG key = true) (h0 : 0 ≤ n) (h1 : n ≤ 24) : onF (List.replicate n.toNat 0) key = streamF key n := by
  rw [onF_yes (zeros_ok (by omega)) h, streamF_yes h h0 h1, on_zero]
theorem offF_stream {key n : Int} (h : inG key = true) (h0 : 0 ≤ n) (h1 : n ≤ 24) : offF (streamF key n) key = List.replicate n.toNat 0 := by
  rw [streamF_yes h h0 h1, offF_yes (strL_ok key (by omega)) h, off_str]
theorem onF_length {xs : List Int} {key : Int} (h : okL xs = true) (h1 : inG key = true) : (onF xs key).length = xs.length := by rw [onF_yes h h1, onL_len]
theorem offF_length {xs : List Int} {key : Int} (h : okL xs = true) (h1 : inG key = true) : (offF xs key).length = xs.length := by rw [offF_yes h h1, offL_len]
theorem streamF_length {key n : Int} (h : inG key = true) (h0 : 0 ≤ n) (h1 : n ≤ 24) : (streamF key n).length = n.toNat := by rw [streamF_yes h h0 h1, strL_len]

theorem strL_getD (key : Int) {n j : Nat} (h : j < n) : (strL key n).getD j 0 = at2 key j := by
  rw [List.getD_eq_getElem?_getD, List.getElem?_eq_getElem (by rw [strL_len]; exact h)]
  simp [strL]
theorem streamF_getD {key n : Int} (h : inG key = true) (h0 : 0 ≤ n) (h1 : n ≤ 24) {j : Nat} (hj : j < n.toNat) : (streamF key n).getD j 0 = at2 key j := by
  rw [streamF_yes h h0 h1, strL_getD key hj]
theorem streamF_take {key : Int} {q m : Nat} (h : inG key = true) (hm : m ≤ 24) (hq : q ≤ m) : streamF key (q : Int) = (streamF key (m : Int)).take q := by
  rw [streamF_yes h (by omega) (by omega), streamF_yes h (by omega) (by omega), Int.toNat_natCast, Int.toNat_natCast, str_take key hq]
/-- Another number of a list is another number. -/
theorem another_ne (x b : Int) : (0 ≤ (x + 1 + b % 990) % 991 ∧ (x + 1 + b % 990) % 991 ≤ 990) ∧ (x + 1 + b % 990) % 991 ≠ x := by omega

theorem onF_set {xs : List Int} {key y : Int} {k : Nat} (h : okL xs = true) (h1 : inG key = true) (hy : 0 ≤ y ∧ y ≤ 990) (hk : k < xs.length) (hne : y ≠ xs.getD k 0) :
    (onF (xs.set k y) key).length = (onF xs key).length ∧ (∀ j, j < xs.length → j ≠ k → (onF (xs.set k y) key).getD j 0 = (onF xs key).getD j 0) ∧ (onF (xs.set k y) key).getD k 0 ≠ (onF xs key).getD k 0 := by
  rw [onF_yes h h1, onF_yes (set_ok h hy) h1]
  exact ⟨by rw [onL_len, onL_len, List.length_set], fun j hj hn => on_set key k y hj hn, on_set_at key hk h hy hne⟩

theorem okL_take {xs : List Int} (h : okL xs = true) (k : Nat) : okL (xs.take k) = true :=
  okL_iff.2 ⟨fun x hx => (okL_iff.1 h).1 x (List.mem_of_mem_take hx), by have := (okL_iff.1 h).2; rw [List.length_take]; omega⟩

end Go.Proofs.Ytdngdmhepjjeeaa.Mm

/-
  Plain arithmetic of the tags, on lists of integers. Nothing of any program.
-/
namespace Go.Proofs.Ytdngdmhepjjeeaa.Tm
open Gm Mm

def step (t x : Int) : Int := (613 * t + x + 1) % 991
def ini (key : Int) (n : Nat) : Int := (3 * key + 41 * (n : Int) + 1) % 991
def tagL (key : Int) (xs : List Int) : Int := xs.foldl step (ini key xs.length)
def tagTo (key : Int) (xs : List Int) (k : Nat) : Int := (xs.take k).foldl step (ini key xs.length)
def tagF (key : Int) (xs : List Int) : Int := bif inG key && okL xs then tagL key xs else -1
def tagC (key : Int) (xs : List Int) (tag : Int) : Bool := decide (0 ≤ tag ∧ tagF key xs = tag)

theorem step_bd (t x : Int) : 0 ≤ step t x ∧ step t x ≤ 990 := by unfold step; omega
theorem ini_bd (key : Int) (n : Nat) : 0 ≤ ini key n ∧ ini key n ≤ 990 := by unfold ini; omega
theorem fold_bd (ys : List Int) (t : Int) (h : 0 ≤ t ∧ t ≤ 990) : 0 ≤ ys.foldl step t ∧ ys.foldl step t ≤ 990 := by
  induction ys generalizing t with
  | nil => exact h
  | cons a l ih => exact ih _ (step_bd t a)
theorem tagL_bd (key : Int) (xs : List Int) : 0 ≤ tagL key xs ∧ tagL key xs ≤ 990 := fold_bd _ _ (ini_bd _ _)
theorem tagTo_bd (key : Int) (xs : List Int) (k : Nat) : 0 ≤ tagTo key xs k ∧ tagTo key xs k ≤ 990 := fold_bd _ _ (ini_bd _ _)
theorem tagTo_zero (key : Int) (xs : List Int) : tagTo key xs 0 = ini key xs.length := rfl
theorem tagTo_succ (key : Int) {xs : List Int} {k : Nat} (h : k < xs.length) : tagTo key xs (k + 1) = (613 * tagTo key xs k + xs.getD k 0 + 1) % 991 := by
  unfold tagTo; rw [take_succ_getD h, List.foldl_append]; rfl
theorem tagTo_all (key : Int) {xs : List Int} {k : Nat} (h : xs.length ≤ k) : tagTo key xs k = tagL key xs := by
  unfold tagTo tagL; rw [List.take_of_length_le h]
theorem tagF_yes {key : Int} {xs : List Int} (h : inG key = true) (h1 : okL xs = true) : tagF key xs = tagL key xs := by simp [tagF, h, h1]
theorem tagF_no1 {key : Int} {xs : List Int} (h : inG key = false) : tagF key xs = -1 := by simp [tagF, h]
theorem tagF_no2 {key : Int} {xs : List Int} (h : okL xs = false) : tagF key xs = -1 := by simp [tagF, h]
theorem tagF_bd (key : Int) (xs : List Int) : -1 ≤ tagF key xs ∧ tagF key xs ≤ 990 := by
  unfold tagF
  cases inG key && okL xs
  · simp
  · have := tagL_bd key xs; simp; omega
theorem tagF_ok {key : Int} {xs : List Int} (h : 0 ≤ tagF key xs) : inG key = true ∧ okL xs = true := by
  cases h1 : inG key
  · rw [tagF_no1 h1] at h; omega
  · cases h2 : okL xs
    · rw [tagF_no2 h2] at h; omega
    · exact ⟨rfl, rfl⟩

theorem step_inj {t u x : Int} (ht : 0 ≤ t ∧ t ≤ 990) (hu : 0 ≤ u ∧ u ≤ 990) (h : step t x = step u x) : t = u := by unfold step at h; omega
theorem step_inj2 {t x y : Int} (hx : 0 ≤ x ∧ x ≤ 990) (hy : 0 ≤ y ∧ y ≤ 990) (h : step t x = step t y) : x = y := by unfold step at h; omega
theorem fold_inj (ys : List Int) {t u : Int} (ht : 0 ≤ t ∧ t ≤ 990) (hu : 0 ≤ u ∧ u ≤ 990) (h : ys.foldl step t = ys.foldl step u) : t = u := by
  induction ys generalizing t u with
  | nil => exact h
  | cons a l ih => exact step_inj ht hu (ih (step_bd t a) (step_bd u a) h)
theorem fold_set (xs : List Int) (k : Nat) (y t : Int) (hk : k < xs.length) (ht : 0 ≤ t ∧ t ≤ 990) (hx : ∀ x ∈ xs, 0 ≤ x ∧ x ≤ 990) (hy : 0 ≤ y ∧ y ≤ 990) (h : (xs.set k y).foldl step t = xs.foldl step t) : y = xs.getD k 0 := by
  induction xs generalizing k t with
  | nil => simp at hk
  | cons a l ih =>
    cases k with
    | zero =>
      have := fold_inj l (step_bd t y) (step_bd t a) h
      exact step_inj2 hy (hx a (by simp)) this
    | succ k => exact ih k (step t a) (by simpa using hk) (step_bd t a) (fun x hm => hx x (by simp [hm])) h
/-- One changed number changes the tag. -/
theorem tagL_set {key : Int} {xs : List Int} {k : Nat} {y : Int} (hk : k < xs.length) (hx : okL xs = true) (hy : 0 ≤ y ∧ y ≤ 990) (hne : y ≠ xs.getD k 0) : tagL key (xs.set k y) ≠ tagL key xs := by
  intro h
  unfold tagL at h
  rw [List.length_set] at h
  exact hne (fold_set xs k y _ hk (ini_bd _ _) (okL_iff.1 hx).1 hy h)
theorem tagF_set {key : Int} {xs : List Int} {k : Nat} {y : Int} (hg : inG key = true) (hk : k < xs.length) (hx : okL xs = true) (hy : 0 ≤ y ∧ y ≤ 990) (hne : y ≠ xs.getD k 0) : tagF key (xs.set k y) ≠ tagF key xs := by
  rw [tagF_yes hg (set_ok hx hy), tagF_yes hg hx]; exact tagL_set hk hx hy hne
theorem tagF_nil {key : Int} (h : inG key = true) : tagF key [] = (3 * key + 1) % 991 := by
  rw [tagF_yes h (by decide)]; simp [tagL, ini]
theorem snoc_ok {xs : List Int} {n : Int} (h : okL xs = true) (hl : xs.length < 24) (hn : 0 ≤ n ∧ n ≤ 990) : okL (xs ++ [n]) = true := by
  refine okL_iff.2 ⟨fun x hx => ?_, by simp; omega⟩
  rcases List.mem_append.1 hx with h1 | h1
  · exact (okL_iff.1 h).1 x h1
  · simp at h1; subst h1; exact hn
theorem tagF_snoc {key : Int} {xs : List Int} {k : Nat} {y n : Int} (hg : inG key = true) (hk : k < xs.length) (hx : okL xs = true) (hl : xs.length < 24) (hn : 0 ≤ n ∧ n ≤ 990) (hy : 0 ≤ y ∧ y ≤ 990) (hne : y ≠ xs.getD k 0) :
    tagF key (xs ++ [n]) ≠ tagF key (xs.set k y ++ [n]) := by
  have h1 : xs.set k y ++ [n] = (xs ++ [n]).set k y := by rw [List.set_append_left _ _ hk]
  rw [h1]
  refine fun h => tagF_set (k := k) (y := y) hg (by simp; omega) (snoc_ok hx hl hn) hy ?_ h.symm
  rw [List.getD_eq_getElem?_getD, List.getElem?_append_left hk, ← List.getD_eq_getElem?_getD]
  exact hne
theorem tagC_iff {key : Int} {xs : List Int} {tag : Int} : tagC key xs tag = true ↔ 0 ≤ tag ∧ tagF key xs = tag := by simp [tagC]
theorem tagC_no {key : Int} {xs : List Int} {tag : Int} (h : tagF key xs ≠ tag) : tagC key xs tag = false := by simp [tagC, h]

end Go.Proofs.Ytdngdmhepjjeeaa.Tm

/-
  Plain arithmetic of the letters: the body of a letter, and the letter of a body, on lists of integers. Nothing of any program.
-/
namespace Go.Proofs.Ytdngdmhepjjeeaa.Lm
open Gm Mm Tm

def packOk (xs : List Int) : Bool := okL xs && decide (xs.length ≤ 4)
/-- The length, the letter, zeros. -/
def headL (xs : List Int) : List Int := ((xs.length : Int) :: xs) ++ List.replicate (4 - xs.length) 0
def packL (xs : List Int) : List Int := headL xs ++ [tagL 1 (headL xs)]
def packF (xs : List Int) : List Int := bif packOk xs then packL xs else []
/-- From place k on, below 5, there are zeros alone. -/
def zerosFrom (b : List Int) (k : Nat) : Prop := ∀ i, k ≤ i → i < 5 → b.getD i 0 = 0
instance (b : List Int) (k : Nat) : Decidable (zerosFrom b k) :=
  decidable_of_iff (∀ i, i < 5 → k ≤ i → b.getD i 0 = 0) ⟨fun h i h1 h2 => h i h2 h1, fun h i h2 h1 => h i h1 h2⟩
def openOk (b : List Int) : Bool := okL b && decide (b.length = 6 ∧ tagL 1 (b.take 5) = b.getD 5 0 ∧ b.getD 0 0 ≤ 4 ∧ zerosFrom b ((b.getD 0 0).toNat + 1))
def openF (b : List Int) : List Int := bif openOk b then (b.drop 1).take (b.getD 0 0).toNat else []

theorem packOk_iff {xs : List Int} : packOk xs = true ↔ okL xs = true ∧ xs.length ≤ 4 := by simp [packOk]
theorem packF_yes {xs : List Int} (h : packOk xs = true) : packF xs = packL xs := by simp [packF, h]
theorem packF_no {xs : List Int} (h : packOk xs = false) : packF xs = [] := by simp [packF, h]
theorem headL_len {xs : List Int} (h : xs.length ≤ 4) : (headL xs).length = 5 := by simp [headL]; omega
theorem packL_len {xs : List Int} (h : xs.length ≤ 4) : (packL xs).length = 6 := by simp [packL, headL_len h]
theorem headL_ok {xs : List Int} (h : packOk xs = true) : okL (headL xs) = true := by
  obtain ⟨h1, h2⟩ := packOk_iff.1 h
  refine okL_iff.2 ⟨fun x hx => ?_, by rw [headL_len h2]; omega⟩
  unfold headL at hx
  rcases List.mem_append.1 hx with hm | hm
  · rcases List.mem_cons.1 hm with hm | hm
    · subst hm; omega
    · exact (okL_iff.1 h1).1 x hm
  · have := (List.mem_replicate.1 hm).2; subst this; omega
theorem packL_ok {xs : List Int} (h : packOk xs = true) : okL (packL xs) = true := snoc_ok (headL_ok h) (by rw [headL_len (packOk_iff.1 h).2]; omega) (tagL_bd _ _)
theorem packL_take {xs : List Int} (h : xs.length ≤ 4) : (packL xs).take 5 = headL xs := by
  unfold packL; rw [List.take_append_of_le_length (by rw [headL_len h]; omega), List.take_of_length_le (by rw [headL_len h]; omega)]
theorem packL_five {xs : List Int} (h : xs.length ≤ 4) : (packL xs).getD 5 0 = tagL 1 (headL xs) := by
  have := headL_len h
  unfold packL; rw [List.getD_eq_getElem?_getD, List.getElem?_append_right (by omega), this]; rfl
theorem packL_zero (xs : List Int) : (packL xs).getD 0 0 = (xs.length : Int) := by simp [packL, headL]
theorem packL_zeros {xs : List Int} (h : xs.length ≤ 4) : zerosFrom (packL xs) (xs.length + 1) := by
  intro i h1 h2
  have hl := headL_len h
  unfold packL
  rw [List.getD_eq_getElem?_getD, List.getElem?_append_left (by omega)]
  unfold headL
  rw [List.getElem?_append_right (by simp; omega), List.getElem?_replicate]
  split <;> rfl
theorem openOk_pack {xs : List Int} (h : packOk xs = true) : openOk (packL xs) = true := by
  have h2 := (packOk_iff.1 h).2
  unfold openOk
  rw [packL_ok h, Bool.true_and, decide_eq_true_eq, packL_take h2, packL_five h2, packL_zero, packL_len h2]
  exact ⟨rfl, rfl, by omega, by rw [Int.toNat_natCast]; exact packL_zeros h2⟩
theorem openF_yes {b : List Int} (h : openOk b = true) : openF b = (b.drop 1).take (b.getD 0 0).toNat := by simp [openF, h]
theorem openF_no {b : List Int} (h : openOk b = false) : openF b = [] := by simp [openF, h]
theorem openF_pack {xs : List Int} (h : packOk xs = true) : openF (packL xs) = xs := by
  have h2 := (packOk_iff.1 h).2
  rw [openF_yes (openOk_pack h), packL_zero, Int.toNat_natCast]
  unfold packL headL
  simp
theorem openOk_iff {b : List Int} : openOk b = true ↔ okL b = true ∧ b.length = 6 ∧ tagL 1 (b.take 5) = b.getD 5 0 ∧ b.getD 0 0 ≤ 4 ∧ zerosFrom b ((b.getD 0 0).toNat + 1) := by
  simp [openOk]
theorem openOk_set {xs : List Int} {k : Nat} {y : Int} (h : packOk xs = true) (hk : k < 6) (hy : 0 ≤ y ∧ y ≤ 990) (hne : y ≠ (packL xs).getD k 0) : openOk ((packL xs).set k y) = false := by
  have h2 := (packOk_iff.1 h).2
  have hl := packL_len h2
  cases hc : openOk ((packL xs).set k y)
  · rfl
  · exfalso
    obtain ⟨_, _, ht, _, _⟩ := openOk_iff.1 hc
    by_cases hk5 : k = 5
    · subst hk5
      rw [List.take_set, List.set_eq_of_length_le (by rw [List.length_take]; omega), packL_take h2] at ht
      rw [packL_five h2] at hne
      rw [List.getD_eq_getElem?_getD, List.getElem?_set_self (by omega)] at ht
      exact hne ht.symm
    · rw [List.take_set, packL_take h2, List.getD_eq_getElem?_getD, List.getElem?_set_ne hk5, ← List.getD_eq_getElem?_getD, packL_five h2] at ht
      have hh := headL_len h2
      refine tagL_set (key := 1) (by omega) (headL_ok h) hy ?_ ht
      have : (packL xs).getD k 0 = (headL xs).getD k 0 := by
        unfold packL; rw [List.getD_eq_getElem?_getD, List.getElem?_append_left (by omega), ← List.getD_eq_getElem?_getD]
      rw [← this]; exact hne

theorem pack_small (l : List Int) (h1 : ∀ x ∈ l, 0 ≤ x ∧ x ≤ 990) (h2 : l.length ≤ 4) : packOk l = true := packOk_iff.2 ⟨okL_iff.2 ⟨h1, by omega⟩, h2⟩

/-- A body that is a letter's is the body of its letter. -/
theorem pack_open {b : List Int} (h : openOk b = true) : packOk (openF b) = true ∧ packF (openF b) = b := by
  obtain ⟨hok, hl, ht, h4, hz⟩ := openOk_iff.1 h
  match b, hl with
  | [b0, b1, b2, b3, b4, b5], _ =>
    have g0 := (okL_iff.1 hok).1
    have hb0 := g0 b0 (by simp)
    have hb1 := g0 b1 (by simp)
    have hb2 := g0 b2 (by simp)
    have hb3 := g0 b3 (by simp)
    have hb4 := g0 b4 (by simp)
    have z1 := hz 1
    have z2 := hz 2
    have z3 := hz 3
    have z4 := hz 4
    simp at ht h4 z1 z2 z3 z4
    have e := openF_yes h
    simp at e
    obtain c | c | c | c | c : b0 = 0 ∨ b0 = 1 ∨ b0 = 2 ∨ b0 = 3 ∨ b0 = 4 := by omega
    all_goals
      subst c
      simp at e z1 z2 z3 z4
      rw [e]
      refine ⟨pack_small _ (by simp; try omega) (by simp), ?_⟩
      rw [packF_yes (pack_small _ (by simp; try omega) (by simp))]
      simp [packL, headL]
      simp_all

theorem openOk_bad {b : List Int} (h : ¬ (okL b = true ∧ b.length = 6 ∧ tagL 1 (b.take 5) = b.getD 5 0 ∧ b.getD 0 0 ≤ 4 ∧ zerosFrom b ((b.getD 0 0).toNat + 1))) : openOk b = false := by
  cases hc : openOk b
  · rfl
  · exact absurd (openOk_iff.1 hc) h

theorem packF_le (xs : List Int) : (packF xs).length ≤ 6 := by
  cases h : packOk xs
  · rw [packF_no h]; simp
  · rw [packF_yes h, packL_len (packOk_iff.1 h).2]; omega
theorem openF_le (b : List Int) : (openF b).length ≤ 6 := by
  cases h : openOk b
  · rw [openF_no h]; simp
  · rw [openF_yes h, List.length_take, List.length_drop, (openOk_iff.1 h).2.1]; omega

end Go.Proofs.Ytdngdmhepjjeeaa.Lm

/-
  Plain arithmetic of the packets: keys of a path, filler, headers, peeling, on lists of integers. Nothing of any program.
-/
namespace Go.Proofs.Ytdngdmhepjjeeaa.Pm
open Gm Mm Tm Lm

/-- The shared keys of a path. -/
def keysF : Int → List Int → List Int
  | _, [] => []
  | x, p :: ps => mulG x p :: keysF (mulG x (facG (mulG x p))) ps
def pubsOk (ps : List Int) : Bool := ps.all inG && decide (1 ≤ ps.length ∧ ps.length ≤ 3)
/-- What one mix appends. -/
def fillStep (out : List Int) (key : Int) : List Int := (out ++ [0, 0, 0]).mapIdx fun k x => (x + 991 - at2 key (12 - (out.length + 3) + k)) % 991
def fillF (keys : List Int) : List Int := keys.dropLast.foldl fillStep []
def lastL (r : Int) (m : Nat) : List Int := [1, r, 0] ++ List.replicate (6 - m) 0
/-- The header of a path, for its first mix; f: the filler. -/
def hdr (r : Int) (f : List Int) : List Int → List Int → List Int
  | [], _ => []
  | [k], _ => onL (lastL r f.length) k ++ f
  | k :: k2 :: ks, names => onL ([0, names.getD 1 0, tagL k2 (hdr r f (k2 :: ks) names.tail)] ++ (hdr r f (k2 :: ks) names.tail).take 6) k
def bodyF (b : List Int) (keys : List Int) : List Int := keys.foldl onL b

theorem fillStep_len (out : List Int) (key : Int) : (fillStep out key).length = out.length + 3 := by simp [fillStep]
theorem foldFill_len (keys out : List Int) : (keys.foldl fillStep out).length = out.length + 3 * keys.length := by
  induction keys generalizing out with
  | nil => simp
  | cons k ks ih => rw [List.foldl_cons, ih, fillStep_len]; simp; omega
theorem fillF_len (keys : List Int) : (fillF keys).length = 3 * (keys.length - 1) := by
  unfold fillF; rw [foldFill_len]; simp
theorem lastL_len (r : Int) {m : Nat} (h : m ≤ 6) : (lastL r m).length = 9 - m := by simp [lastL]; omega

theorem getD_on (xs : List Int) (key : Int) {j : Nat} (h : j < xs.length) : (onL xs key).getD j 0 = (xs.getD j 0 + at2 key j) % 991 := by
  rw [List.getD_eq_getElem?_getD, List.getElem?_eq_getElem (by rw [onL_len]; exact h), List.getD_eq_getElem?_getD, List.getElem?_eq_getElem h]
  simp [onL]
theorem getD_off (xs : List Int) (key : Int) {j : Nat} (h : j < xs.length) : (offL xs key).getD j 0 = (xs.getD j 0 + 991 - at2 key j) % 991 := by
  rw [List.getD_eq_getElem?_getD, List.getElem?_eq_getElem (by rw [offL_len]; exact h), List.getD_eq_getElem?_getD, List.getElem?_eq_getElem h]
  simp [offL]
theorem getD_fill (out : List Int) (key : Int) {j : Nat} (h : j < out.length + 3) : (fillStep out key).getD j 0 = ((out ++ [0, 0, 0]).getD j 0 + 991 - at2 key (12 - (out.length + 3) + j)) % 991 := by
  have hl : j < (out ++ [0, 0, 0]).length := by simp; omega
  rw [List.getD_eq_getElem?_getD, List.getElem?_eq_getElem (by rw [fillStep_len]; exact h), List.getD_eq_getElem?_getD, List.getElem?_eq_getElem hl]
  simp only [fillStep, List.getElem_mapIdx, Option.getD_some]
theorem ext_getD {xs ys : List Int} (hl : xs.length = ys.length) (h : ∀ j, j < xs.length → xs.getD j 0 = ys.getD j 0) : xs = ys := by
  apply List.ext_getElem hl
  intro j h1 h2
  have := h j h1
  rwa [List.getD_eq_getElem?_getD, List.getD_eq_getElem?_getD, List.getElem?_eq_getElem h1, List.getElem?_eq_getElem h2] at this
theorem getD_left {xs ys : List Int} {j : Nat} (h : j < xs.length) : (xs ++ ys).getD j 0 = xs.getD j 0 := by
  rw [List.getD_eq_getElem?_getD, List.getElem?_append_left h, ← List.getD_eq_getElem?_getD]
theorem getD_right {xs ys : List Int} {j : Nat} (h : xs.length ≤ j) : (xs ++ ys).getD j 0 = ys.getD (j - xs.length) 0 := by
  rw [List.getD_eq_getElem?_getD, List.getElem?_append_right h, ← List.getD_eq_getElem?_getD]
theorem getD_take {xs : List Int} {j k : Nat} (h : j < k) : (xs.take k).getD j 0 = xs.getD j 0 := by
  rw [List.getD_eq_getElem?_getD, List.getElem?_take_of_lt h, ← List.getD_eq_getElem?_getD]
theorem getD_drop {xs : List Int} {j k : Nat} : (xs.drop k).getD j 0 = xs.getD (k + j) 0 := by
  rw [List.getD_eq_getElem?_getD, List.getElem?_drop, ← List.getD_eq_getElem?_getD]
theorem getD_zeros {j m : Nat} : (List.replicate m (0 : Int)).getD j 0 = 0 := by
  rw [List.getD_eq_getElem?_getD, List.getElem?_replicate]; split <;> rfl

/-- A header has nine numbers. -/
theorem hdr_len (r : Int) (f : List Int) (hf : f.length ≤ 6) (k : Int) (ks names : List Int) : (hdr r f (k :: ks) names).length = 9 := by
  induction ks generalizing k names with
  | nil => simp [hdr, onL_len, lastL_len r hf]; omega
  | cons k2 ks ih => simp [hdr, onL_len, ih k2 names.tail]

/-- What a mix takes off a header: twelve numbers. -/
def plainF (h : List Int) (k : Int) : List Int := offL (h ++ [0, 0, 0]) k
theorem plainF_len {h : List Int} (k : Int) (hl : h.length = 9) : (plainF h k).length = 12 := by simp [plainF, offL_len, hl]

/-- Peeling the header of a path of two mixes or more: the next name and tag, and six numbers of the next header; then three of the mix's own. -/
theorem plain_more (r : Int) (f : List Int) (k k2 : Int) (ks names : List Int) (hf : f.length ≤ 6)
    (hok : okL ([0, names.getD 1 0, tagL k2 (hdr r f (k2 :: ks) names.tail)] ++ (hdr r f (k2 :: ks) names.tail).take 6) = true) :
    plainF (hdr r f (k :: k2 :: ks) names) k = [0, names.getD 1 0, tagL k2 (hdr r f (k2 :: ks) names.tail)] ++ (hdr r f (k2 :: ks) names.tail).take 6 ++ [(991 - at2 k 9) % 991, (991 - at2 k 10) % 991, (991 - at2 k 11) % 991] := by
  have hl2 := hdr_len r f hf k2 ks names.tail
  have e : hdr r f (k :: k2 :: ks) names = onL ([0, names.getD 1 0, tagL k2 (hdr r f (k2 :: ks) names.tail)] ++ (hdr r f (k2 :: ks) names.tail).take 6) k := rfl
  rw [e]
  generalize hP : [0, names.getD 1 0, tagL k2 (hdr r f (k2 :: ks) names.tail)] ++ (hdr r f (k2 :: ks) names.tail).take 6 = P at *
  have hPl : P.length = 9 := by rw [← hP]; simp [hl2]
  apply ext_getD
  · simp [plainF, offL_len, onL_len, hPl]
  · intro j hj
    have hj12 : j < 12 := by simpa [plainF, offL_len, onL_len, hPl] using hj
    unfold plainF
    rw [getD_off _ _ (by simp [onL_len, hPl]; omega)]
    by_cases h9 : j < 9
    · rw [getD_left (by rw [onL_len]; omega), getD_left (by omega), getD_on P k (by omega)]
      have := okL_at hok (k := j) (by omega)
      have := at2_bd k j
      omega
    · rw [getD_right (by rw [onL_len]; omega), getD_right (by omega), onL_len, hPl]
      obtain rfl | rfl | rfl : j = 9 ∨ j = 10 ∨ j = 11 := by omega
      all_goals simp

theorem fill_in (keys out : List Int) (h : ∀ x ∈ out, 0 ≤ x ∧ x ≤ 990) : ∀ x ∈ keys.foldl fillStep out, 0 ≤ x ∧ x ≤ 990 := by
  induction keys generalizing out with
  | nil => exact h
  | cons k ks ih =>
    refine ih _ fun x hx => ?_
    unfold fillStep at hx
    obtain ⟨j, hj, e⟩ := List.getElem_of_mem hx
    rw [List.getElem_mapIdx] at e
    omega
theorem hdr_in (r : Int) (f : List Int) (hf : ∀ x ∈ f, 0 ≤ x ∧ x ≤ 990) (ks names : List Int) : ∀ x ∈ hdr r f ks names, 0 ≤ x ∧ x ≤ 990 := by
  have hon : ∀ (l : List Int) (k x : Int), x ∈ onL l k → 0 ≤ x ∧ x ≤ 990 := fun l k x hx => by
    unfold onL at hx
    obtain ⟨j, hj, e⟩ := List.getElem_of_mem hx
    rw [List.getElem_mapIdx] at e
    omega
  intro x hx
  match ks with
  | [] => simp [hdr] at hx
  | [k] =>
    rcases List.mem_append.1 (show x ∈ onL (lastL r f.length) k ++ f from hx) with h | h
    · exact hon _ _ x h
    · exact hf x h
  | k :: k2 :: ks => exact hon _ _ x hx
theorem hdr_ok (r : Int) (f : List Int) (hl : f.length ≤ 6) (hf : ∀ x ∈ f, 0 ≤ x ∧ x ≤ 990) (k : Int) (ks names : List Int) : okL (hdr r f (k :: ks) names) = true :=
  okL_iff.2 ⟨hdr_in r f hf _ _, by rw [hdr_len r f hl]; omega⟩
theorem plain_ok (r : Int) (f : List Int) (hl : f.length ≤ 6) (hf : ∀ x ∈ f, 0 ≤ x ∧ x ≤ 990) (k2 m : Int) (ks names : List Int) (hm : 0 ≤ m ∧ m ≤ 990) :
    okL ([0, m, tagL k2 (hdr r f (k2 :: ks) names)] ++ (hdr r f (k2 :: ks) names).take 6) = true := by
  refine okL_iff.2 ⟨fun x hx => ?_, by simp [hdr_len r f hl]⟩
  rcases List.mem_append.1 hx with h | h
  · have := tagL_bd k2 (hdr r f (k2 :: ks) names)
    simp at h
    rcases h with rfl | rfl | rfl <;> omega
  · exact hdr_in r f hf _ _ x (List.mem_of_mem_take h)
theorem getD_in {xs : List Int} (h : ∀ x ∈ xs, 0 ≤ x ∧ x ≤ 990) (j : Nat) : 0 ≤ xs.getD j 0 ∧ xs.getD j 0 ≤ 990 := by
  rcases Nat.lt_or_ge j xs.length with hj | hj
  · exact h _ (getD_mem hj)
  · rw [List.getD_eq_getElem?_getD, List.getElem?_eq_none hj]; simp

/-- The last numbers of a header are what the mixes ahead have appended. -/
theorem hdr_tail (r : Int) (f : List Int) (ks : List Int) : ∀ (pre : List Int) (k : Int) (names : List Int), pre.length + ks.length ≤ 2 → f = ((pre ++ k :: ks).dropLast).foldl fillStep [] →
    ∀ j, j < 3 * pre.length → (hdr r f (k :: ks) names).getD (9 - 3 * pre.length + j) 0 = (pre.foldl fillStep []).getD j 0 := by
  induction ks with
  | nil =>
    intro pre k names hp hf j hj
    have e : (pre ++ [k]).dropLast = pre := by simp
    rw [e] at hf
    have hfl : f.length = 3 * pre.length := by rw [hf, foldFill_len]; simp
    have hll := lastL_len r (m := f.length) (by simp at hp; omega)
    show (onL (lastL r f.length) k ++ f).getD _ 0 = _
    rw [getD_right (by rw [onL_len, hll]; omega), onL_len, hll, hfl, ← hf]
    congr 1
    omega
  | cons k2 ks ih =>
    intro pre k names hp hf j hj
    have hp' : (pre ++ [k]).length + ks.length ≤ 2 := by simp at hp ⊢; omega
    have hf' : f = (((pre ++ [k]) ++ k2 :: ks).dropLast).foldl fillStep [] := by rw [hf]; simp
    have h1 := ih (pre ++ [k]) k2 names.tail hp' hf' j (by simp; omega)
    have hfl : f.length ≤ 6 := by rw [hf, foldFill_len]; simp at hp ⊢; omega
    have hhl := hdr_len r f hfl k2 ks names.tail
    have hin := fill_in pre [] (by simp)
    have hpl : (pre.foldl fillStep []).length = 3 * pre.length := by rw [foldFill_len]; simp
    rw [List.foldl_append, List.foldl_cons, List.foldl_nil, getD_fill _ _ (by rw [hpl]; omega), hpl, getD_left (by rw [hpl]; exact hj)] at h1
    have hb := getD_in hin j
    show (onL ([0, names.getD 1 0, tagL k2 (hdr r f (k2 :: ks) names.tail)] ++ (hdr r f (k2 :: ks) names.tail).take 6) k).getD _ 0 = _
    have hp1 : pre.length ≤ 1 := by simp at hp; omega
    rw [getD_on _ _ (by simp [hhl]; omega), getD_right (by simp; omega), getD_take (by simp; omega)]
    have e1 : 9 - 3 * pre.length + j - [0, names.getD 1 0, tagL k2 (hdr r f (k2 :: ks) names.tail)].length = 9 - 3 * (pre ++ [k]).length + j := by simp; omega
    rw [e1, h1]
    have e2 : 12 - (3 * pre.length + 3) + j = 9 - 3 * pre.length + j := by omega
    rw [e2]
    have := at2_bd k (9 - 3 * pre.length + j)
    omega

/-- Peeling the header of a path of two mixes or more gives the next header. -/
theorem plain_next (r : Int) (f : List Int) (pre ks names : List Int) (k k2 : Int) (hp : pre.length + (k2 :: ks).length ≤ 2) (hf : f = ((pre ++ k :: k2 :: ks).dropLast).foldl fillStep []) (hm : 0 ≤ names.getD 1 0 ∧ names.getD 1 0 ≤ 990) :
    plainF (hdr r f (k :: k2 :: ks) names) k = [0, names.getD 1 0, tagL k2 (hdr r f (k2 :: ks) names.tail)] ++ hdr r f (k2 :: ks) names.tail := by
  have hfl : f.length ≤ 6 := by rw [hf, foldFill_len]; simp at hp ⊢; omega
  have hin : ∀ x ∈ f, 0 ≤ x ∧ x ≤ 990 := by rw [hf]; exact fill_in _ [] (by simp)
  rw [plain_more r f k k2 ks names hfl (plain_ok r f hfl hin k2 _ ks names.tail hm), List.append_assoc]
  congr 1
  have hhl := hdr_len r f hfl k2 ks names.tail
  have hp' : (pre ++ [k]).length + ks.length ≤ 2 := by simp at hp ⊢; omega
  have hf' : f = (((pre ++ [k]) ++ k2 :: ks).dropLast).foldl fillStep [] := by rw [hf]; simp
  have hpl : (pre.foldl fillStep []).length = 3 * pre.length := by rw [foldFill_len]; simp
  apply ext_getD
  · simp [hhl]
  · intro j hj
    have hj9 : j < 9 := by simpa [hhl] using hj
    by_cases h6 : j < 6
    · rw [getD_left (by simp [hhl]; omega), getD_take h6]
    · rw [getD_right (by simp [hhl]; omega)]
      have h1 := hdr_tail r f ks (pre ++ [k]) k2 names.tail hp' hf' (3 * pre.length + (j - 6)) (by simp; omega)
      rw [List.foldl_append, List.foldl_cons, List.foldl_nil, getD_fill _ _ (by rw [hpl]; omega), hpl, getD_right (by rw [hpl]; omega), hpl] at h1
      have hp1 : pre.length ≤ 1 := by simp at hp; omega
      have e1 : 9 - 3 * (pre ++ [k]).length + (3 * pre.length + (j - 6)) = j := by simp; omega
      have e2 : 12 - (3 * pre.length + 3) + (3 * pre.length + (j - 6)) = 9 + (j - 6) := by omega
      rw [e1, e2] at h1
      rw [h1]
      have e3 : 3 * pre.length + (j - 6) - 3 * pre.length = j - 6 := by omega
      rw [e3]
      obtain rfl | rfl | rfl : j = 6 ∨ j = 7 ∨ j = 8 := by omega
      all_goals simp [hhl]

/-- Peeling the header of the last mix gives the receiver. -/
theorem plain_last (r : Int) (f names : List Int) (k : Int) (hfl : f.length ≤ 6) (hr : 0 ≤ r ∧ r ≤ 990) :
    (plainF (hdr r f [k] names) k).getD 0 0 = 1 ∧ (plainF (hdr r f [k] names) k).getD 1 0 = r := by
  have hll := lastL_len r hfl
  have h0 := at2_bd k 0
  have h1 := at2_bd k 1
  have e : hdr r f [k] names = onL (lastL r f.length) k ++ f := rfl
  have l0 : (lastL r f.length).getD 0 0 = 1 := rfl
  have l1 : (lastL r f.length).getD 1 0 = r := rfl
  unfold plainF
  rw [e]
  constructor
  · rw [getD_off _ _ (by simp; omega), getD_left (by simp [onL_len, hll]; omega), getD_left (by rw [onL_len, hll]; omega), getD_on _ _ (by rw [hll]; omega), l0]; omega
  · rw [getD_off _ _ (by simp; omega), getD_left (by simp [onL_len, hll]; omega), getD_left (by rw [onL_len, hll]; omega), getD_on _ _ (by rw [hll]; omega), l1]; omega

theorem body_comm (ks b : List Int) (k : Int) : ks.foldl onL (onL b k) = onL (ks.foldl onL b) k := by
  induction ks generalizing b with
  | nil => rfl
  | cons k2 ks ih => rw [List.foldl_cons, List.foldl_cons, on_on, ih]
theorem body_len (ks b : List Int) : (bodyF b ks).length = b.length := by
  unfold bodyF
  induction ks generalizing b with
  | nil => rfl
  | cons k ks ih => rw [List.foldl_cons, ih, onL_len]
theorem body_ok (ks b : List Int) (h : okL b = true) : okL (bodyF b ks) = true := by
  unfold bodyF
  induction ks generalizing b with
  | nil => exact h
  | cons k ks ih => exact ih _ (onL_ok k (okL_iff.1 h).2)
theorem body_off (ks b : List Int) (k : Int) (h : okL b = true) : offL (bodyF b (k :: ks)) k = bodyF b ks := by
  unfold bodyF
  rw [List.foldl_cons, body_comm, off_on k]
  exact body_ok ks b h

/-- Packets and peeled packets. -/
structure Pkt where
  el : Int
  hd : List Int
  tag : Int
  bd : List Int
structure Pld where
  kind : Int
  next : Int
  pk : Pkt
def Pkt.zero : Pkt := ⟨0, [], 0, []⟩
def Pld.zero : Pld := ⟨0, 0, Pkt.zero⟩
def inName (x : Int) : Bool := decide (0 ≤ x ∧ x ≤ 7)
theorem inName_iff {x : Int} : inName x = true ↔ 0 ≤ x ∧ x ≤ 7 := by unfold inName; simp
def pktOk (p : Pkt) : Bool := inG p.el && (okL p.hd && (decide (p.hd.length = 9) && (inN p.tag && (okL p.bd && decide (p.bd.length = 6)))))
theorem pktOk_iff {p : Pkt} : pktOk p = true ↔ inG p.el = true ∧ okL p.hd = true ∧ p.hd.length = 9 ∧ inN p.tag = true ∧ okL p.bd = true ∧ p.bd.length = 6 := by simp [pktOk]
def makeOk (secret : Int) (pubs names : List Int) (r : Int) (letter : List Int) : Bool :=
  packOk letter && (inG secret && (pubsOk pubs && (decide (names.length = pubs.length) && (names.all inName && inName r))))
theorem makeOk_iff {secret : Int} {pubs names : List Int} {r : Int} {letter : List Int} : makeOk secret pubs names r letter = true ↔
    packOk letter = true ∧ inG secret = true ∧ pubsOk pubs = true ∧ names.length = pubs.length ∧ (∀ x ∈ names, inName x = true) ∧ inName r = true := by simp [makeOk]
/-- The packet of a path that begins with the changed secret x; f: the filler of the whole path; b: the body. -/
def pkt (x : Int) (pubs names : List Int) (r : Int) (f b : List Int) : Pkt :=
  ⟨mulG x 5, hdr r f (keysF x pubs) names, tagL ((keysF x pubs).headD 0) (hdr r f (keysF x pubs) names), bodyF b (keysF x pubs)⟩
def makeF (secret : Int) (pubs names : List Int) (r : Int) (letter : List Int) : Pkt :=
  bif makeOk secret pubs names r letter then pkt secret pubs names r (fillF (keysF secret pubs)) (packL letter) else Pkt.zero
def keyOf (secret : Int) (p : Pkt) : Int := mulG secret p.el
def peelRaw (secret : Int) (p : Pkt) : Pld :=
  ⟨(plainF p.hd (keyOf secret p)).getD 0 0, (plainF p.hd (keyOf secret p)).getD 1 0,
    ⟨mulG p.el (facG (keyOf secret p)), (plainF p.hd (keyOf secret p)).drop 3, (plainF p.hd (keyOf secret p)).getD 2 0, offL p.bd (keyOf secret p)⟩⟩
def peelOk (secret : Int) (p : Pkt) : Bool :=
  inG secret && (pktOk p && (decide (tagL (keyOf secret p) p.hd = p.tag) && (decide (0 ≤ (peelRaw secret p).kind ∧ (peelRaw secret p).kind ≤ 1) && inName (peelRaw secret p).next)))
def peelF (secret : Int) (p : Pkt) : Pld := bif peelOk secret p then peelRaw secret p else Pld.zero
theorem peelOk_iff {secret : Int} {p : Pkt} : peelOk secret p = true ↔ inG secret = true ∧ pktOk p = true ∧ tagL (keyOf secret p) p.hd = p.tag ∧ (0 ≤ (peelRaw secret p).kind ∧ (peelRaw secret p).kind ≤ 1) ∧ inName (peelRaw secret p).next = true := by simp [peelOk]
theorem peelF_yes {secret : Int} {p : Pkt} (h : peelOk secret p = true) : peelF secret p = peelRaw secret p := by simp [peelF, h]
theorem peelF_no {secret : Int} {p : Pkt} (h : peelOk secret p = false) : peelF secret p = Pld.zero := by simp [peelF, h]
theorem makeF_yes {secret : Int} {pubs names : List Int} {r : Int} {letter : List Int} (h : makeOk secret pubs names r letter = true) : makeF secret pubs names r letter = pkt secret pubs names r (fillF (keysF secret pubs)) (packL letter) := by simp [makeF, h]
theorem makeF_no {secret : Int} {pubs names : List Int} {r : Int} {letter : List Int} (h : makeOk secret pubs names r letter = false) : makeF secret pubs names r letter = Pkt.zero := by simp [makeF, h]

theorem keysF_len (x : Int) (ps : List Int) : (keysF x ps).length = ps.length := by
  induction ps generalizing x with
  | nil => rfl
  | cons p ps ih => simp [keysF, ih]
theorem keysF_in (x : Int) (ps : List Int) (hx : inG x = true) (hp : ∀ p ∈ ps, inG p = true) : ∀ k ∈ keysF x ps, inG k = true := by
  induction ps generalizing x with
  | nil => simp [keysF]
  | cons p ps ih =>
    intro k hk
    have hk1 : inG (mulG x p) = true := mulG_pos hx (hp p (by simp))
    rcases List.mem_cons.1 (show k ∈ mulG x p :: keysF (mulG x (facG (mulG x p))) ps from hk) with h | h
    · subst h; exact hk1
    · exact ih _ (mulG_pos hx (facG_pos hk1)) (fun q hq => hp q (by simp [hq])) k h

/-- The key that a mix shares with the sender. -/
theorem key_eq {x a : Int} (hx : inG x = true) (ha : inG a = true) : mulG a (mulG x 5) = mulG x (mulG a 5) := by
  rw [mulG_assoc ha hx (by decide), mulG_assoc hx ha (by decide), mulG_comm a x]
theorem el_next {x y : Int} (hx : inG x = true) (hy : inG y = true) : mulG (mulG x 5) y = mulG (mulG x y) 5 := by
  rw [← mulG_assoc hx (by decide) hy, ← mulG_assoc hx hy (by decide), mulG_comm 5 y]

/-- One step of the way: the mix with secret a, and more mixes behind it. -/
theorem step_next {x a a2 r : Int} {as names f b pre : List Int} (hx : inG x = true) (ha : inG a = true)
    (hp : pre.length + (a2 :: as).length ≤ 2) (hf : f = ((pre ++ keysF x ((a :: a2 :: as).map (mulG · 5))).dropLast).foldl fillStep [])
    (hn : inName (names.getD 1 0) = true) (hb : okL b = true) (hb6 : b.length = 6) :
    peelOk a (pkt x ((a :: a2 :: as).map (mulG · 5)) names r f b) = true ∧
    peelRaw a (pkt x ((a :: a2 :: as).map (mulG · 5)) names r f b) =
      ⟨0, names.getD 1 0, pkt (mulG x (facG (mulG x (mulG a 5)))) ((a2 :: as).map (mulG · 5)) names.tail r f b⟩ := by
  have hk : inG (mulG x (mulG a 5)) = true := mulG_pos hx (mulG_pos ha (by decide))
  have hx2 : inG (mulG x (facG (mulG x (mulG a 5)))) = true := mulG_pos hx (facG_pos hk)
  have hnn := inName_iff.1 hn
  have ek : keysF x ((a :: a2 :: as).map (mulG · 5)) = mulG x (mulG a 5) :: keysF (mulG x (facG (mulG x (mulG a 5)))) ((a2 :: as).map (mulG · 5)) := rfl
  have ek2 : ∃ k2 ks, keysF (mulG x (facG (mulG x (mulG a 5)))) ((a2 :: as).map (mulG · 5)) = k2 :: ks ∧ ks.length = as.length := ⟨_, _, rfl, by rw [keysF_len]; simp⟩
  obtain ⟨k2, ks, ek2, hks⟩ := ek2
  have hkey : keyOf a (pkt x ((a :: a2 :: as).map (mulG · 5)) names r f b) = mulG x (mulG a 5) := key_eq hx ha
  rw [ek, ek2] at hf
  have hpl := plain_next r f pre ks names (mulG x (mulG a 5)) k2 (by simp [hks] at hp ⊢; omega) hf (by omega)
  have hfl : f.length ≤ 6 := by rw [hf, foldFill_len]; simp [hks] at hp ⊢; omega
  have hin : ∀ x ∈ f, 0 ≤ x ∧ x ≤ 990 := by rw [hf]; exact fill_in _ [] (by simp)
  have hraw : peelRaw a (pkt x ((a :: a2 :: as).map (mulG · 5)) names r f b) =
      ⟨0, names.getD 1 0, pkt (mulG x (facG (mulG x (mulG a 5)))) ((a2 :: as).map (mulG · 5)) names.tail r f b⟩ := by
    unfold peelRaw
    rw [hkey]
    have e1 : (pkt x ((a :: a2 :: as).map (mulG · 5)) names r f b).hd = hdr r f (mulG x (mulG a 5) :: k2 :: ks) names := by unfold pkt; rw [ek, ek2]
    have e2 : (pkt x ((a :: a2 :: as).map (mulG · 5)) names r f b).bd = bodyF b (mulG x (mulG a 5) :: k2 :: ks) := by unfold pkt; rw [ek, ek2]
    have e3 : (pkt x ((a :: a2 :: as).map (mulG · 5)) names r f b).el = mulG x 5 := rfl
    rw [e1, e2, e3, hpl, body_off _ _ _ hb, el_next hx (facG_pos hk)]
    unfold pkt
    rw [ek2]
    simp
  refine ⟨?_, hraw⟩
  rw [peelOk_iff, hraw, hkey]
  refine ⟨ha, pktOk_iff.2 ⟨mulG_pos hx (by decide), ?_, ?_, ?_, ?_, ?_⟩, ?_, ⟨by show (0 : Int) ≤ 0; omega, by show (0 : Int) ≤ 1; omega⟩, hn⟩
  · show okL (hdr r f (keysF x _) names) = true
    rw [ek]; exact hdr_ok r f hfl hin _ _ _
  · show (hdr r f (keysF x _) names).length = 9
    rw [ek]; exact hdr_len r f hfl _ _ _
  · exact inN_iff.2 (tagL_bd _ _)
  · exact body_ok _ _ hb
  · show (bodyF b _).length = 6
    rw [body_len, hb6]
  · show tagL _ (hdr r f (keysF x _) names) = tagL ((keysF x _).headD 0) _
    rw [ek]; rfl

/-- The last step of the way. -/
theorem step_last {x a r : Int} {names f b pre : List Int} (hx : inG x = true) (ha : inG a = true)
    (hp : pre.length ≤ 2) (hf : f = ((pre ++ keysF x [mulG a 5]).dropLast).foldl fillStep []) (hr : inName r = true) (hb : okL b = true) (hb6 : b.length = 6) :
    peelOk a (pkt x [mulG a 5] names r f b) = true ∧ (peelRaw a (pkt x [mulG a 5] names r f b)).kind = 1 ∧ (peelRaw a (pkt x [mulG a 5] names r f b)).next = r ∧ (peelRaw a (pkt x [mulG a 5] names r f b)).pk.bd = b := by
  have hk : inG (mulG x (mulG a 5)) = true := mulG_pos hx (mulG_pos ha (by decide))
  have hrn := inName_iff.1 hr
  have ek : keysF x [mulG a 5] = [mulG x (mulG a 5)] := rfl
  have hkey : keyOf a (pkt x [mulG a 5] names r f b) = mulG x (mulG a 5) := key_eq hx ha
  rw [ek] at hf
  have hfl : f.length ≤ 6 := by rw [hf, foldFill_len]; simp; omega
  have hin : ∀ x ∈ f, 0 ≤ x ∧ x ≤ 990 := by rw [hf]; exact fill_in _ [] (by simp)
  have hpl := plain_last r f names (mulG x (mulG a 5)) hfl (by omega)
  have h1 : (peelRaw a (pkt x [mulG a 5] names r f b)).kind = 1 := by unfold peelRaw; rw [hkey]; exact hpl.1
  have h2 : (peelRaw a (pkt x [mulG a 5] names r f b)).next = r := by unfold peelRaw; rw [hkey]; exact hpl.2
  have h3 : (peelRaw a (pkt x [mulG a 5] names r f b)).pk.bd = b := by
    unfold peelRaw; rw [hkey]
    exact body_off [] b _ hb
  refine ⟨?_, h1, h2, h3⟩
  rw [peelOk_iff, h1, h2, hkey]
  refine ⟨ha, pktOk_iff.2 ⟨mulG_pos hx (by decide), ?_, ?_, ?_, ?_, ?_⟩, ?_, by decide, hr⟩
  · exact hdr_ok r f hfl hin _ _ _
  · exact hdr_len r f hfl _ _ _
  · exact inN_iff.2 (tagL_bd _ _)
  · exact body_ok _ _ hb
  · show (bodyF b _).length = 6
    rw [body_len, hb6]
  · rfl

/-- For the loop that makes the filler. -/
def fillTo (out : List Int) (key : Int) (q : Nat) : List Int := (fillStep out key).take q
theorem fillTo_succ (out : List Int) (key : Int) {q : Nat} (h : q < out.length + 3) :
    fillTo out key (q + 1) = fillTo out key q ++ [((out ++ [0, 0, 0]).getD q 0 + 991 - at2 key (12 - (out.length + 3) + q)) % 991] := by
  unfold fillTo
  rw [take_succ_getD (by rw [fillStep_len]; exact h), getD_fill out key h]
theorem fillTo_all (out : List Int) (key : Int) {q : Nat} (h : out.length + 3 ≤ q) : fillTo out key q = fillStep out key := by
  unfold fillTo; rw [List.take_of_length_le (by rw [fillStep_len]; exact h)]
def fillAt (keys : List Int) (k : Nat) : List Int := (keys.take k).foldl fillStep []
theorem fillAt_succ {keys : List Int} {k : Nat} (h : k < keys.length) : fillAt keys (k + 1) = fillStep (fillAt keys k) (keys.getD k 0) := by
  unfold fillAt; rw [take_succ_getD h, List.foldl_append]; rfl
theorem fillAt_len {keys : List Int} {k : Nat} (h : k ≤ keys.length) : (fillAt keys k).length = 3 * k := by
  unfold fillAt; rw [foldFill_len, List.length_take]; simp; omega
theorem fillAt_all {keys : List Int} {k : Nat} (h : k = keys.length - 1) : fillAt keys k = fillF keys := by
  unfold fillAt fillF; rw [h, List.dropLast_eq_take]
theorem fillAt_in (keys : List Int) (k : Nat) : ∀ x ∈ fillAt keys k, 0 ≤ x ∧ x ≤ 990 := fill_in _ [] (by simp)

theorem drop_getD {xs : List Int} {k : Nat} (h : k < xs.length) : xs.drop k = xs.getD k 0 :: xs.drop (k + 1) := by
  rw [List.drop_eq_getElem_cons h, List.getD_eq_getElem?_getD, List.getElem?_eq_getElem h]; rfl
/-- The header for one mix out of that for the next. -/
theorem hdr_step (r : Int) (f ks ns : List Int) {s : Nat} (h : s + 1 < ks.length) :
    hdr r f (ks.drop s) (ns.drop s) = onL ([0, ns.getD (s + 1) 0, tagL (ks.getD (s + 1) 0) (hdr r f (ks.drop (s + 1)) (ns.drop (s + 1)))] ++ (hdr r f (ks.drop (s + 1)) (ns.drop (s + 1))).take 6) (ks.getD s 0) := by
  rw [drop_getD (xs := ks) (k := s) (by omega), drop_getD (xs := ks) (k := s + 1) h]
  show onL _ _ = _
  rw [getD_drop, List.tail_drop]
theorem hdr_lastmix (r : Int) (f ks ns : List Int) {s : Nat} (h : s + 1 = ks.length) : hdr r f (ks.drop s) ns = onL (lastL r f.length) (ks.getD s 0) ++ f := by
  rw [drop_getD (xs := ks) (k := s) (by omega), h, List.drop_length]
  rfl
theorem hdr_drop_len (r : Int) (f ks ns : List Int) (hf : f.length ≤ 6) {s : Nat} (h : s < ks.length) : (hdr r f (ks.drop s) ns).length = 9 := by
  rw [drop_getD h]; exact hdr_len r f hf _ _ _
theorem hdr_drop_ok (r : Int) (f ks ns : List Int) (hf : f.length ≤ 6) (hi : ∀ x ∈ f, 0 ≤ x ∧ x ≤ 990) {s : Nat} (h : s < ks.length) : okL (hdr r f (ks.drop s) ns) = true := by
  rw [drop_getD h]; exact hdr_ok r f hf hi _ _ _
theorem plain_drop_ok (r : Int) (f ks ns : List Int) (hf : f.length ≤ 6) (hi : ∀ x ∈ f, 0 ≤ x ∧ x ≤ 990) {s : Nat} (h : s < ks.length) (m : Int) (hm : 0 ≤ m ∧ m ≤ 990) :
    okL ([0, m, tagL (ks.getD s 0) (hdr r f (ks.drop s) ns)] ++ (hdr r f (ks.drop s) ns).take 6) = true := by
  rw [drop_getD h]; exact plain_ok r f hf hi _ m _ ns hm
theorem lastL_ok (r : Int) {m : Nat} (hr : 0 ≤ r ∧ r ≤ 990) : okL (lastL r m) = true := by
  refine okL_iff.2 ⟨fun x hx => ?_, by simp [lastL]; omega⟩
  unfold lastL at hx
  rcases List.mem_append.1 hx with h | h
  · simp at h; omega
  · have := (List.mem_replicate.1 h).2; omega
theorem lastL_to (r : Int) {m j : Nat} (h : j = 6 - m) : [1, r, 0] ++ List.replicate j 0 = lastL r m := by subst h; rfl
theorem fillF_in (ks : List Int) : ∀ x ∈ fillF ks, 0 ≤ x ∧ x ≤ 990 := fill_in _ [] (by simp)

end Go.Proofs.Ytdngdmhepjjeeaa.Pm

/-
  Plain arithmetic of packets, more: packets that are made are valid; what changes and what does not. Nothing of any program.
-/
namespace Go.Proofs.Ytdngdmhepjjeeaa.Po
open Gm Mm Tm Lm Pm

theorem keys_cons {x : Int} {ps : List Int} (h : pubsOk ps = true) : ∃ k ks, keysF x ps = k :: ks ∧ ks.length ≤ 2 := by
  unfold pubsOk at h
  simp at h
  match ps, h with
  | [], h => simp at h
  | p :: ps, h => exact ⟨_, _, rfl, by rw [keysF_len]; simp at h; omega⟩
theorem fill_le {x : Int} {ps : List Int} (h : pubsOk ps = true) : (fillF (keysF x ps)).length ≤ 6 := by
  obtain ⟨k, ks, e, hl⟩ := keys_cons (x := x) h
  rw [fillF_len, e]; simp; omega
/-- A packet that is made is valid. -/
theorem make_valid {x r : Int} {ps ns ls : List Int} (h : makeOk x ps ns r ls = true) : pktOk (makeF x ps ns r ls) = true ∧ (makeF x ps ns r ls).el = mulG x 5 := by
  obtain ⟨q1, q2, q3, q4, q5, q6⟩ := makeOk_iff.1 h
  rw [makeF_yes h]
  refine ⟨pktOk_iff.2 ⟨mulG_pos q2 (by decide), ?_, ?_, ?_, ?_, ?_⟩, rfl⟩
  · obtain ⟨k, ks, e, _⟩ := keys_cons (x := x) q3
    show okL (hdr r (fillF (keysF x ps)) (keysF x ps) ns) = true
    have := hdr_ok r (fillF (keysF x ps)) (fill_le q3) (fillF_in _) k ks ns
    rw [e] at this ⊢
    exact this
  · obtain ⟨k, ks, e, _⟩ := keys_cons (x := x) q3
    show (hdr r (fillF (keysF x ps)) (keysF x ps) ns).length = 9
    have := hdr_len r (fillF (keysF x ps)) (fill_le q3) k ks ns
    rw [e] at this ⊢
    exact this
  · exact inN_iff.2 (tagL_bd _ _)
  · exact body_ok _ _ (packL_ok q1)
  · show (bodyF (packL ls) _).length = 6
    rw [body_len, packL_len (packOk_iff.1 q1).2]

/-- The letter does not change the header. -/
theorem letter_free {x r : Int} {ps ns ls ms : List Int} (h : makeOk x ps ns r ls = true) (hm : packOk ms = true) : makeOk x ps ns r ms = true ∧ (makeF x ps ns r ms).el = (makeF x ps ns r ls).el ∧ (makeF x ps ns r ms).tag = (makeF x ps ns r ls).tag ∧ (makeF x ps ns r ms).hd = (makeF x ps ns r ls).hd := by
  obtain ⟨q1, q2, q3, q4, q5, q6⟩ := makeOk_iff.1 h
  have h2 : makeOk x ps ns r ms = true := makeOk_iff.2 ⟨hm, q2, q3, q4, q5, q6⟩
  refine ⟨h2, ?_⟩
  rw [makeF_yes h, makeF_yes h2]
  exact ⟨rfl, rfl, rfl⟩
theorem pack_one {v : Int} (h : 0 ≤ v ∧ v ≤ 990) : packOk [v] = true := pack_small [v] (by intro y hy; simp at hy; omega) (by simp)
/-- Another secret makes another packet. -/
theorem secret_other {x s r : Int} {ps ns ls : List Int} (h : makeOk x ps ns r ls = true) (hs : inG s = true) : makeOk s ps ns r ls = true ∧ (s ≠ x → (makeF s ps ns r ls).el ≠ (makeF x ps ns r ls).el) := by
  obtain ⟨q1, q2, q3, q4, q5, q6⟩ := makeOk_iff.1 h
  have h2 : makeOk s ps ns r ls = true := makeOk_iff.2 ⟨q1, hs, q3, q4, q5, q6⟩
  refine ⟨h2, fun hne he => hne ?_⟩
  rw [(make_valid h).2, (make_valid h2).2, mulG_comm s 5, mulG_comm x 5] at he
  exact mulG_inj (by decide) hs q2 he
theorem make_secret {x r : Int} {ps ns ls : List Int} (h : makeOk x ps ns r ls = true) : 1 ≤ x ∧ x ≤ 996 := inG_iff.1 (makeOk_iff.1 h).2.1

end Go.Proofs.Ytdngdmhepjjeeaa.Po

/-
  Plain arithmetic of peeling: what is passed on is a packet; its tag was right. Nothing of any program.
-/
namespace Go.Proofs.Ytdngdmhepjjeeaa.Po
open Gm Mm Tm Lm Pm

/-- What a mix passes on is a packet; its parts. -/
theorem peel_valid {x : Int} {p : Pkt} (h : peelOk x p = true) : pktOk (peelF x p).pk = true ∧ (peelF x p).pk.el = mulG p.el (facG (mulG x p.el)) ∧ (peelF x p).pk.bd = offF p.bd (mulG x p.el) := by
  obtain ⟨o1, o2, o3, o4, o5⟩ := peelOk_iff.1 h
  obtain ⟨u1, u2, u3, u4, u5, u6⟩ := pktOk_iff.1 o2
  have hk : inG (mulG x p.el) = true := mulG_pos o1 u1
  have hok : okL (plainF p.hd (mulG x p.el)) = true := offL_ok _ (by simp [u3])
  rw [peelF_yes h]
  refine ⟨pktOk_iff.2 ⟨mulG_pos u1 (facG_pos hk), ?_, ?_, ?_, ?_, ?_⟩, rfl, (offF_yes u5 hk).symm⟩
  · refine okL_iff.2 ⟨fun y hy => (okL_iff.1 hok).1 y (List.mem_of_mem_drop hy), ?_⟩
    show ((plainF p.hd (mulG x p.el)).drop 3).length ≤ 24
    rw [List.length_drop, plainF_len _ u3]
    omega
  · show ((plainF p.hd (mulG x p.el)).drop 3).length = 9
    rw [List.length_drop, plainF_len _ u3]
  · exact inN_iff.2 (okL_at hok (k := 2) (by rw [plainF_len _ u3]; omega))
  · exact offL_ok _ (okL_iff.1 u5).2
  · show (offL p.bd _).length = 6
    rw [offL_len, u6]
/-- A packet that is peeled has the right tag. -/
theorem peel_tag {x : Int} {p : Pkt} (h : peelOk x p = true) : tagC (mulG x p.el) p.hd p.tag = true := by
  obtain ⟨o1, o2, o3, o4, o5⟩ := peelOk_iff.1 h
  obtain ⟨u1, u2, u3, u4, u5, u6⟩ := pktOk_iff.1 o2
  exact tagC_iff.2 ⟨(inN_iff.1 u4).1, by rw [tagF_yes (mulG_pos o1 u1) u2]; exact o3⟩

/-- What a layer tells: the mask off the header alone shows it. -/
theorem peel_info {x : Int} {p : Pkt} (h : peelOk x p = true) : (offF p.hd (mulG x p.el)).length = 9 ∧ (offF p.hd (mulG x p.el)).getD 0 0 = (peelF x p).kind ∧ (offF p.hd (mulG x p.el)).getD 1 0 = (peelF x p).next ∧ (offF p.hd (mulG x p.el)).getD 2 0 = (peelF x p).pk.tag ∧
    (offF p.hd (mulG x p.el)).drop 3 = (peelF x p).pk.hd.take 6 ∧ (peelF x p).pk.hd.length = 9 := by
  obtain ⟨o1, o2, o3, o4, o5⟩ := peelOk_iff.1 h
  obtain ⟨u1, u2, u3, u4, u5, u6⟩ := pktOk_iff.1 o2
  have hk : inG (mulG x p.el) = true := mulG_pos o1 u1
  have hl := plainF_len (mulG x p.el) u3
  have e : offL p.hd (mulG x p.el) = (plainF p.hd (mulG x p.el)).take 9 := by
    apply ext_getD
    · rw [offL_len, u3, List.length_take, hl]
      rfl
    · intro j hj
      have hj9 : j < 9 := by rw [offL_len, u3] at hj; exact hj
      rw [getD_take hj9, getD_off _ _ (by omega)]
      unfold plainF
      rw [getD_off _ _ (by simp [u3]; omega), getD_left (by omega)]
  rw [offF_yes u2 hk, peelF_yes h, e]
  refine ⟨by rw [List.length_take, hl]; rfl, getD_take (by omega), getD_take (by omega), getD_take (by omega), ?_, ?_⟩
  · show ((plainF p.hd (mulG x p.el)).take 9).drop 3 = ((plainF p.hd (mulG x p.el)).drop 3).take 6
    rw [List.drop_take]
  · show ((plainF p.hd (mulG x p.el)).drop 3).length = 9
    rw [List.length_drop, hl]

/-- A changed number of the header: the tag is not right. -/
theorem peel_hd {x : Int} {p : Pkt} {k : Nat} {y : Int} (h : peelOk x p = true) (hk : k < p.hd.length) (hy : 0 ≤ y ∧ y ≤ 990) (hne : y ≠ p.hd.getD k 0) : peelOk x ⟨p.el, p.hd.set k y, p.tag, p.bd⟩ = false := by
  obtain ⟨o1, o2, o3, o4, o5⟩ := peelOk_iff.1 h
  obtain ⟨u1, u2, u3, u4, u5, u6⟩ := pktOk_iff.1 o2
  cases hq : peelOk x ⟨p.el, p.hd.set k y, p.tag, p.bd⟩
  · rfl
  · obtain ⟨_, _, v3, _, _⟩ := peelOk_iff.1 hq
    exact absurd (show tagL (mulG x p.el) (p.hd.set k y) = tagL (mulG x p.el) p.hd from v3.trans o3.symm) (tagL_set hk u2 hy hne)
/-- A changed tag is not right. -/
theorem peel_tg {x : Int} {p : Pkt} {y : Int} (h : peelOk x p = true) (hne : y ≠ p.tag) : peelOk x ⟨p.el, p.hd, y, p.bd⟩ = false := by
  obtain ⟨o1, o2, o3, o4, o5⟩ := peelOk_iff.1 h
  cases hq : peelOk x ⟨p.el, p.hd, y, p.bd⟩
  · rfl
  · obtain ⟨_, _, v3, _, _⟩ := peelOk_iff.1 hq
    exact absurd (show y = p.tag from v3.symm.trans o3) hne
/-- A changed number of the body: peeled as before, one number of the body changed. -/
theorem peel_bd {x : Int} {p : Pkt} {k : Nat} {y : Int} (h : peelOk x p = true) (hy : 0 ≤ y ∧ y ≤ 990) : peelOk x ⟨p.el, p.hd, p.tag, p.bd.set k y⟩ = true ∧
    peelF x ⟨p.el, p.hd, p.tag, p.bd.set k y⟩ = ⟨(peelF x p).kind, (peelF x p).next, ⟨(peelF x p).pk.el, (peelF x p).pk.hd, (peelF x p).pk.tag, offL (p.bd.set k y) (mulG x p.el)⟩⟩ := by
  obtain ⟨o1, o2, o3, o4, o5⟩ := peelOk_iff.1 h
  obtain ⟨u1, u2, u3, u4, u5, u6⟩ := pktOk_iff.1 o2
  have hq : peelOk x ⟨p.el, p.hd, p.tag, p.bd.set k y⟩ = true := peelOk_iff.2 ⟨o1, pktOk_iff.2 ⟨u1, u2, u3, u4, set_ok u5 hy, by rw [List.length_set]; exact u6⟩, o3, o4, o5⟩
  refine ⟨hq, ?_⟩
  rw [peelF_yes h, peelF_yes hq]
  rfl
/-- Where two bodies differ, and nowhere else, what is below the mask differs. -/
theorem off_set {xs : List Int} {key : Int} {k j : Nat} {y : Int} (hx : okL xs = true) (hj : j < xs.length) (hk : k < xs.length) (hy : 0 ≤ y ∧ y ≤ 990) (hne : y ≠ xs.getD k 0) :
    ((offL (xs.set k y) key).getD j 0 ≠ (offL xs key).getD j 0) ↔ j = k := by
  rw [getD_off _ _ (by rw [List.length_set]; exact hj), getD_off _ _ hj]
  by_cases e : j = k
  · subst e
    have h1 : (xs.set j y).getD j 0 = y := by simp [List.getD_eq_getElem?_getD, hj]
    rw [h1]
    have h2 := okL_at hx hj
    have h3 := at2_bd key j
    constructor
    · intro _; rfl
    · intro _ h
      apply hne
      omega
  · have h1 : (xs.set k y).getD j 0 = xs.getD j 0 := by simp [List.getD_eq_getElem?_getD, Ne.symm e]
    rw [h1]
    simp [e]

end Go.Proofs.Ytdngdmhepjjeeaa.Po

/-
  Plain arithmetic of the layers of a packet: pairs of a key and the next name, from the first mix to the last. Nothing of any program.
-/
namespace Go.Proofs.Ytdngdmhepjjeeaa.Pn
open Gm Mm Tm Lm Pm

/-- The layers of a path. -/
def layL : List Int → List Int → Int → List (Int × Int)
  | [], _, _ => []
  | [k], _, r => [(k, r)]
  | k :: k2 :: ks, ns, r => (k, ns.getD 1 0) :: layL (k2 :: ks) ns.tail r
/-- The name that stands ahead of mix s: the receiver behind the last one. -/
def nxAt (ns : List Int) (n : Nat) (r : Int) (s : Nat) : Int := if s = n then r else ns.getD s 0

theorem layL_step {ks ns : List Int} {r : Int} {s : Nat} (h : s < ks.length) :
    layL (ks.drop s) (ns.drop s) r = (ks.getD s 0, nxAt ns ks.length r (s + 1)) :: layL (ks.drop (s + 1)) (ns.drop (s + 1)) r := by
  rw [drop_getD h]
  unfold nxAt
  by_cases e : s + 1 = ks.length
  · rw [if_pos e, e, List.drop_length]
    rfl
  · rw [if_neg e, drop_getD (xs := ks) (k := s + 1) (by omega)]
    show (_, _) :: _ = _
    rw [getD_drop, List.tail_drop]
theorem layL_cons (k : Int) (ks ns : List Int) (r : Int) : ∃ x L, layL (k :: ks) ns r = (k, x) :: L := by
  cases ks with
  | nil => exact ⟨_, _, rfl⟩
  | cons k2 ks => exact ⟨_, _, rfl⟩
theorem layL_keys (ks ns : List Int) (r : Int) : (layL ks ns r).map Prod.fst = ks := by
  induction ks generalizing ns with
  | nil => rfl
  | cons k ks ih =>
    cases ks with
    | nil => rfl
    | cons k2 ks => show k :: _ = _; rw [ih]
theorem layL_len (ks ns : List Int) (r : Int) : (layL ks ns r).length = ks.length := by
  have := congrArg List.length (layL_keys ks ns r)
  simpa using this
theorem layL_in (ks ns : List Int) (r : Int) (hk : ∀ k ∈ ks, inG k = true) (hl : ns.length = ks.length) (hn : ∀ x ∈ ns, inName x = true) (hr : inName r = true) : ∀ p ∈ layL ks ns r, inG p.1 = true ∧ inName p.2 = true := by
  induction ks generalizing ns with
  | nil => intro p hp; cases hp
  | cons k ks ih =>
    cases ks with
    | nil =>
      intro p hp
      obtain rfl : p = (k, r) := by simpa [layL] using hp
      exact ⟨hk k (by simp), hr⟩
    | cons k2 ks =>
      match ns, hl with
      | _ :: n2 :: ns, hl =>
        intro p hp
        rcases List.mem_cons.1 (show p ∈ (k, n2) :: layL (k2 :: ks) (n2 :: ns) r from hp) with rfl | h
        · exact ⟨hk k (by simp), hn n2 (by simp)⟩
        · exact ih (n2 :: ns) (fun q hq => hk q (by simp [hq])) (by simpa using hl) (fun q hq => hn q (by simp [hq])) p h

/-- The header of layers; f: the filler. -/
def hdrL (f : List Int) : List (Int × Int) → List Int
  | [] => []
  | [(k, x)] => onL (lastL x f.length) k ++ f
  | (k, x) :: y :: L => onL ([0, x, tagL y.1 (hdrL f (y :: L))] ++ (hdrL f (y :: L)).take 6) k
theorem hdrL_lay (f ks ns : List Int) (r : Int) : hdrL f (layL ks ns r) = hdr r f ks ns := by
  induction ks generalizing ns with
  | nil => rfl
  | cons k ks ih =>
    cases ks with
    | nil => rfl
    | cons k2 ks =>
      have e : layL (k :: k2 :: ks) ns r = (k, ns.getD 1 0) :: layL (k2 :: ks) ns.tail r := rfl
      obtain ⟨x, L, e2⟩ := layL_cons k2 ks ns.tail r
      have h2 := ih ns.tail
      rw [e2] at h2
      rw [e, e2]
      show onL ([0, _, tagL k2 (hdrL f _)] ++ (hdrL f _).take 6) k = onL _ k
      rw [h2]
theorem hdrL_len (f : List Int) (hf : f.length ≤ 6) (p : Int × Int) (L : List (Int × Int)) : (hdrL f (p :: L)).length = 9 := by
  induction L generalizing p with
  | nil =>
    obtain ⟨k, x⟩ := p
    simp [hdrL, onL_len, lastL_len x hf]; omega
  | cons q L ih =>
    obtain ⟨k, x⟩ := p
    simp [hdrL, onL_len, ih q]
theorem onL_in (l : List Int) (k x : Int) (hx : x ∈ onL l k) : 0 ≤ x ∧ x ≤ 990 := by
  unfold onL at hx
  obtain ⟨j, hj, e⟩ := List.getElem_of_mem hx
  rw [List.getElem_mapIdx] at e
  omega
theorem hdrL_in (f : List Int) (hi : ∀ x ∈ f, 0 ≤ x ∧ x ≤ 990) (L : List (Int × Int)) : ∀ x ∈ hdrL f L, 0 ≤ x ∧ x ≤ 990 := by
  match L with
  | [] => intro x hx; cases hx
  | [(k, y)] =>
    intro x hx
    rcases List.mem_append.1 (show x ∈ onL (lastL y f.length) k ++ f from hx) with h | h
    · exact onL_in _ _ _ h
    · exact hi x h
  | (k, y) :: q :: L =>
    intro x hx
    exact onL_in _ _ _ (show x ∈ onL ([0, y, tagL q.1 (hdrL f (q :: L))] ++ (hdrL f (q :: L)).take 6) k from hx)
theorem hdrL_ok (f : List Int) (hf : f.length ≤ 6) (hi : ∀ x ∈ f, 0 ≤ x ∧ x ≤ 990) (p : Int × Int) (L : List (Int × Int)) : okL (hdrL f (p :: L)) = true :=
  okL_iff.2 ⟨hdrL_in f hi _, by rw [hdrL_len f hf]; omega⟩
theorem plainL_ok (f : List Int) (hf : f.length ≤ 6) (hi : ∀ x ∈ f, 0 ≤ x ∧ x ≤ 990) (p : Int × Int) (L : List (Int × Int)) (x k : Int) (hx : 0 ≤ x ∧ x ≤ 990) :
    okL ([0, x, tagL k (hdrL f (p :: L))] ++ (hdrL f (p :: L)).take 6) = true := by
  refine okL_iff.2 ⟨fun y hy => ?_, by simp [hdrL_len f hf p L]⟩
  rcases List.mem_append.1 hy with h | h
  · have := tagL_bd k (hdrL f (p :: L))
    simp at h
    omega
  · exact hdrL_in f hi _ y (List.mem_of_mem_take h)

/-- What a sender takes off nine numbers that end with the filler so far. -/
theorem fill_eq {F : List Int} {m : Nat} (k : Int) (hm : F.length = m) (h6 : m ≤ 6) :
    (offL ((List.replicate (9 - m) 0 ++ F) ++ [0, 0, 0]) k).drop (9 - m) = fillStep F k := by
  apply ext_getD
  · simp [offL_len, fillStep_len, hm] <;> omega
  · intro j hj
    have hj2 : j < m + 3 := by simp [offL_len, hm] at hj; omega
    rw [getD_drop, getD_off _ _ (by simp [hm]; omega), getD_fill F k (by omega), List.append_assoc, getD_right (by simp)]
    have e1 : 9 - m + j - (List.replicate (9 - m) (0 : Int)).length = j := by simp
    have e2 : 12 - (F.length + 3) + j = 9 - m + j := by omega
    rw [e1, e2]
theorem last_eq (x : Int) {m : Nat} (h : m ≤ 6) : ((List.replicate (9 - m) (0 : Int)).set 0 1).set 1 x = lastL x m := by
  obtain ⟨q, hq⟩ : ∃ q, 9 - m = q + 3 := ⟨6 - m, by omega⟩
  have e : 6 - m = q := by omega
  unfold lastL
  rw [hq, e]
  rfl
theorem bodyTo_succ {b ks : List Int} {s : Nat} (h : s < ks.length) : (ks.take (s + 1)).foldl onL b = onL ((ks.take s).foldl onL b) (ks.getD s 0) := by
  rw [take_succ_getD h, List.foldl_append]; rfl

end Go.Proofs.Ytdngdmhepjjeeaa.Pn
