/-
  Plain arithmetic of the packets: keys of a path, filler, headers, peeling, on lists of integers. Nothing of any program.
-/
import Derived.Test.YtnjcpbkpcmemeacLm
namespace Go.Proofs.Ytnjcpbkpcmemeac.Pm
open Gm Mm Tm Lm

/-- The shared keys of a path. -/
def keysF : Int → List Int → List Int
  | _, [] => []
  | x, p :: ps => mulG x p :: keysF (mulG x (facG (mulG x p))) ps
def pubsOk (ps : List Int) : Bool := ps.all inG && decide (1 ≤ ps.length ∧ ps.length ≤ 3)
/-- What one mix appends. -/
def fillStep (out : List Int) (key : Int) : List Int := (out ++ [0, 0, 0]).mapIdx fun k x => (x + 991 - at2 key (12 - (out.length + 3) + k)) % 991
def fillF (keys : List Int) : List Int := keys.dropLast.foldl fillStep []
def lastL (r : Int) (m : Nat) : List Int := [1, r, 0] ++ List.replicate (6 - m) 0
/-- The header of a path, for its first mix; f: the filler. -/
def hdr (r : Int) (f : List Int) : List Int → List Int → List Int
  | [], _ => []
  | [k], _ => onL (lastL r f.length) k ++ f
  | k :: k2 :: ks, names => onL ([0, names.getD 1 0, tagL k2 (hdr r f (k2 :: ks) names.tail)] ++ (hdr r f (k2 :: ks) names.tail).take 6) k
def bodyF (b : List Int) (keys : List Int) : List Int := keys.foldl onL b

theorem fillStep_len (out : List Int) (key : Int) : (fillStep out key).length = out.length + 3 := by simp [fillStep]
theorem foldFill_len (keys out : List Int) : (keys.foldl fillStep out).length = out.length + 3 * keys.length := by
  induction keys generalizing out with
  | nil => simp
  | cons k ks ih => rw [List.foldl_cons, ih, fillStep_len]; simp; omega
theorem fillF_len (keys : List Int) : (fillF keys).length = 3 * (keys.length - 1) := by
  unfold fillF; rw [foldFill_len]; simp
theorem lastL_len (r : Int) {m : Nat} (h : m ≤ 6) : (lastL r m).length = 9 - m := by simp [lastL]; omega

theorem getD_on (xs : List Int) (key : Int) {j : Nat} (h : j < xs.length) : (onL xs key).getD j 0 = (xs.getD j 0 + at2 key j) % 991 := by
  rw [List.getD_eq_getElem?_getD, List.getElem?_eq_getElem (by rw [onL_len]; exact h), List.getD_eq_getElem?_getD, List.getElem?_eq_getElem h]
  simp [onL]
theorem getD_off (xs : List Int) (key : Int) {j : Nat} (h : j < xs.length) : (offL xs key).getD j 0 = (xs.getD j 0 + 991 - at2 key j) % 991 := by
  rw [List.getD_eq_getElem?_getD, List.getElem?_eq_getElem (by rw [offL_len]; exact h), List.getD_eq_getElem?_getD, List.getElem?_eq_getElem h]
  simp [offL]
theorem getD_fill (out : List Int) (key : Int) {j : Nat} (h : j < out.length + 3) : (fillStep out key).getD j 0 = ((out ++ [0, 0, 0]).getD j 0 + 991 - at2 key (12 - (out.length + 3) + j)) % 991 := by
  have hl : j < (out ++ [0, 0, 0]).length := by simp; omega
  rw [List.getD_eq_getElem?_getD, List.getElem?_eq_getElem (by rw [fillStep_len]; exact h), List.getD_eq_getElem?_getD, List.getElem?_eq_getElem hl]
  simp only [fillStep, List.getElem_mapIdx, Option.getD_some]
theorem ext_getD {xs ys : List Int} (hl : xs.length = ys.length) (h : ∀ j, j < xs.length → xs.getD j 0 = ys.getD j 0) : xs = ys := by
  apply List.ext_getElem hl
  intro j h1 h2
  have := h j h1
  rwa [List.getD_eq_getElem?_getD, List.getD_eq_getElem?_getD, List.getElem?_eq_getElem h1, List.getElem?_eq_getElem h2] at this
theorem getD_left {xs ys : List Int} {j : Nat} (h : j < xs.length) : (xs ++ ys).getD j 0 = xs.getD j 0 := by
  rw [List.getD_eq_getElem?_getD, List.getElem?_append_left h, ← List.getD_eq_getElem?_getD]
theorem getD_right {xs ys : List Int} {j : Nat} (h : xs.length ≤ j) : (xs ++ ys).getD j 0 = ys.getD (j - xs.length) 0 := by
  rw [List.getD_eq_getElem?_getD, List.getElem?_append_right h, ← List.getD_eq_getElem?_getD]
theorem getD_take {xs : List Int} {j k : Nat} (h : j < k) : (xs.take k).getD j 0 = xs.getD j 0 := by
  rw [List.getD_eq_getElem?_getD, List.getElem?_take_of_lt h, ← List.getD_eq_getElem?_getD]
theorem getD_drop {xs : List Int} {j k : Nat} : (xs.drop k).getD j 0 = xs.getD (k + j) 0 := by
  rw [List.getD_eq_getElem?_getD, List.getElem?_drop, ← List.getD_eq_getElem?_getD]
theorem getD_zeros {j m : Nat} : (List.replicate m (0 : Int)).getD j 0 = 0 := by
  rw [List.getD_eq_getElem?_getD, List.getElem?_replicate]; split <;> rfl

/-- A header has nine numbers. -/
theorem hdr_len (r : Int) (f : List Int) (hf : f.length ≤ 6) (k : Int) (ks names : List Int) : (hdr r f (k :: ks) names).length = 9 := by
  induction ks generalizing k names with
  | nil => simp [hdr, onL_len, lastL_len r hf]; omega
  | cons k2 ks ih => simp [hdr, onL_len, ih k2 names.tail]

/-- What a mix takes off a header: twelve numbers. -/
def plainF (h : List Int) (k : Int) : List Int := offL (h ++ [0, 0, 0]) k
theorem plainF_len {h : List Int} (k : Int) (hl : h.length = 9) : (plainF h k).length = 12 := by simp [plainF, offL_len, hl]

/-- Peeling the header of a path of two mixes or more: the next name and tag, and six numbers of the next header; then three of the mix's own. -/
theorem plain_more (r : Int) (f : List Int) (k k2 : Int) (ks names : List Int) (hf : f.length ≤ 6)
    (hok : okL ([0, names.getD 1 0, tagL k2 (hdr r f (k2 :: ks) names.tail)] ++ (hdr r f (k2 :: ks) names.tail).take 6) = true) :
    plainF (hdr r f (k :: k2 :: ks) names) k = [0, names.getD 1 0, tagL k2 (hdr r f (k2 :: ks) names.tail)] ++ (hdr r f (k2 :: ks) names.tail).take 6 ++ [(991 - at2 k 9) % 991, (991 - at2 k 10) % 991, (991 - at2 k 11) % 991] := by
  have hl2 := hdr_len r f hf k2 ks names.tail
  have e : hdr r f (k :: k2 :: ks) names = onL ([0, names.getD 1 0, tagL k2 (hdr r f (k2 :: ks) names.tail)] ++ (hdr r f (k2 :: ks) names.tail).take 6) k := rfl
  rw [e]
  generalize hP : [0, names.getD 1 0, tagL k2 (hdr r f (k2 :: ks) names.tail)] ++ (hdr r f (k2 :: ks) names.tail).take 6 = P at *
  have hPl : P.length = 9 := by rw [← hP]; simp [hl2]
  apply ext_getD
  · simp [plainF, offL_len, onL_len, hPl]
  · intro j hj
    have hj12 : j < 12 := by simpa [plainF, offL_len, onL_len, hPl] using hj
    unfold plainF
    rw [getD_off _ _ (by simp [onL_len, hPl]; omega)]
    by_cases h9 : j < 9
    · rw [getD_left (by rw [onL_len]; omega), getD_left (by omega), getD_on P k (by omega)]
      have := okL_at hok (k := j) (by omega)
      have := at2_bd k j
      omega
    · rw [getD_right (by rw [onL_len]; omega), getD_right (by omega), onL_len, hPl]
      obtain rfl | rfl | rfl : j = 9 ∨ j = 10 ∨ j = 11 := by omega
      all_goals simp

theorem fill_in (keys out : List Int) (h : ∀ x ∈ out, 0 ≤ x ∧ x ≤ 990) : ∀ x ∈ keys.foldl fillStep out, 0 ≤ x ∧ x ≤ 990 := by
  induction keys generalizing out with
  | nil => exact h
  | cons k ks ih =>
    refine ih _ fun x hx => ?_
    unfold fillStep at hx
    obtain ⟨j, hj, e⟩ := List.getElem_of_mem hx
    rw [List.getElem_mapIdx] at e
    omega
theorem hdr_in (r : Int) (f : List Int) (hf : ∀ x ∈ f, 0 ≤ x ∧ x ≤ 990) (ks names : List Int) : ∀ x ∈ hdr r f ks names, 0 ≤ x ∧ x ≤ 990 := by
  have hon : ∀ (l : List Int) (k x : Int), x ∈ onL l k → 0 ≤ x ∧ x ≤ 990 := fun l k x hx => by
    unfold onL at hx
    obtain ⟨j, hj, e⟩ := List.getElem_of_mem hx
    rw [List.getElem_mapIdx] at e
    omega
  intro x hx
  match ks with
  | [] => simp [hdr] at hx
  | [k] =>
    rcases List.mem_append.1 (show x ∈ onL (lastL r f.length) k ++ f from hx) with h | h
    · exact hon _ _ x h
    · exact hf x h
  | k :: k2 :: ks => exact hon _ _ x hx
theorem hdr_ok (r : Int) (f : List Int) (hl : f.length ≤ 6) (hf : ∀ x ∈ f, 0 ≤ x ∧ x ≤ 990) (k : Int) (ks names : List Int) : okL (hdr r f (k :: ks) names) = true :=
  okL_iff.2 ⟨hdr_in r f hf _ _, by rw [hdr_len r f hl]; omega⟩
theorem plain_ok (r : Int) (f : List Int) (hl : f.length ≤ 6) (hf : ∀ x ∈ f, 0 ≤ x ∧ x ≤ 990) (k2 m : Int) (ks names : List Int) (hm : 0 ≤ m ∧ m ≤ 990) :
    okL ([0, m, tagL k2 (hdr r f (k2 :: ks) names)] ++ (hdr r f (k2 :: ks) names).take 6) = true := by
  refine okL_iff.2 ⟨fun x hx => ?_, by simp [hdr_len r f hl]⟩
  rcases List.mem_append.1 hx with h | h
  · have := tagL_bd k2 (hdr r f (k2 :: ks) names)
    simp at h
    rcases h with rfl | rfl | rfl <;> omega
  · exact hdr_in r f hf _ _ x (List.mem_of_mem_take h)
theorem getD_in {xs : List Int} (h : ∀ x ∈ xs, 0 ≤ x ∧ x ≤ 990) (j : Nat) : 0 ≤ xs.getD j 0 ∧ xs.getD j 0 ≤ 990 := by
  rcases Nat.lt_or_ge j xs.length with hj | hj
  · exact h _ (getD_mem hj)
  · rw [List.getD_eq_getElem?_getD, List.getElem?_eq_none hj]; simp

/-- The last numbers of a header are what the mixes ahead have appended. -/
theorem hdr_tail (r : Int) (f : List Int) (ks : List Int) : ∀ (pre : List Int) (k : Int) (names : List Int), pre.length + ks.length ≤ 2 → f = ((pre ++ k :: ks).dropLast).foldl fillStep [] →
    ∀ j, j < 3 * pre.length → (hdr r f (k :: ks) names).getD (9 - 3 * pre.length + j) 0 = (pre.foldl fillStep []).getD j 0 := by
  induction ks with
  | nil =>
    intro pre k names hp hf j hj
    have e : (pre ++ [k]).dropLast = pre := by simp
    rw [e] at hf
    have hfl : f.length = 3 * pre.length := by rw [hf, foldFill_len]; simp
    have hll := lastL_len r (m := f.length) (by simp at hp; omega)
    show (onL (lastL r f.length) k ++ f).getD _ 0 = _
    rw [getD_right (by rw [onL_len, hll]; omega), onL_len, hll, hfl, ← hf]
    congr 1
    omega
  | cons k2 ks ih =>
    intro pre k names hp hf j hj
    have hp' : (pre ++ [k]).length + ks.length ≤ 2 := by simp at hp ⊢; omega
    have hf' : f = (((pre ++ [k]) ++ k2 :: ks).dropLast).foldl fillStep [] := by rw [hf]; simp
    have h1 := ih (pre ++ [k]) k2 names.tail hp' hf' j (by simp; omega)
    have hfl : f.length ≤ 6 := by rw [hf, foldFill_len]; simp at hp ⊢; omega
    have hhl := hdr_len r f hfl k2 ks names.tail
    have hin := fill_in pre [] (by simp)
    have hpl : (pre.foldl fillStep []).length = 3 * pre.length := by rw [foldFill_len]; simp
    rw [List.foldl_append, List.foldl_cons, List.foldl_nil, getD_fill _ _ (by rw [hpl]; omega), hpl, getD_left (by rw [hpl]; exact hj)] at h1
    have hb := getD_in hin j
    show (onL ([0, names.getD 1 0, tagL k2 (hdr r f (k2 :: ks) names.tail)] ++ (hdr r f (k2 :: ks) names.tail).take 6) k).getD _ 0 = _
    have hp1 : pre.length ≤ 1 := by simp at hp; omega
    rw [getD_on _ _ (by simp [hhl]; omega), getD_right (by simp; omega), getD_take (by simp; omega)]
    have e1 : 9 - 3 * pre.length + j - [0, names.getD 1 0, tagL k2 (hdr r f (k2 :: ks) names.tail)].length = 9 - 3 * (pre ++ [k]).length + j := by simp; omega
    rw [e1, h1]
    have e2 : 12 - (3 * pre.length + 3) + j = 9 - 3 * pre.length + j := by omega
    rw [e2]
    have := at2_bd k (9 - 3 * pre.length + j)
    omega

/-- Peeling the header of a path of two mixes or more gives the next header. -/
theorem plain_next (r : Int) (f : List Int) (pre ks names : List Int) (k k2 : Int) (hp : pre.length + (k2 :: ks).length ≤ 2) (hf : f = ((pre ++ k :: k2 :: ks).dropLast).foldl fillStep []) (hm : 0 ≤ names.getD 1 0 ∧ names.getD 1 0 ≤ 990) :
    plainF (hdr r f (k :: k2 :: ks) names) k = [0, names.getD 1 0, tagL k2 (hdr r f (k2 :: ks) names.tail)] ++ hdr r f (k2 :: ks) names.tail := by
  have hfl : f.length ≤ 6 := by rw [hf, foldFill_len]; simp at hp ⊢; omega
  have hin : ∀ x ∈ f, 0 ≤ x ∧ x ≤ 990 := by rw [hf]; exact fill_in _ [] (by simp)
  rw [plain_more r f k k2 ks names hfl (plain_ok r f hfl hin k2 _ ks names.tail hm), List.append_assoc]
  congr 1
  have hhl := hdr_len r f hfl k2 ks names.tail
  have hp' : (pre ++ [k]).length + ks.length ≤ 2 := by simp at hp ⊢; omega
  have hf' : f = (((pre ++ [k]) ++ k2 :: ks).dropLast).foldl fillStep [] := by rw [hf]; simp
  have hpl : (pre.foldl fillStep []).length = 3 * pre.length := by rw [foldFill_len]; simp
  apply ext_getD
  · simp [hhl]
  · intro j hj
    have hj9 : j < 9 := by simpa [hhl] using hj
    by_cases h6 : j < 6
    · rw [getD_left (by simp [hhl]; omega), getD_take h6]
    · rw [getD_right (by simp [hhl]; omega)]
      have h1 := hdr_tail r f ks (pre ++ [k]) k2 names.tail hp' hf' (3 * pre.length + (j - 6)) (by simp; omega)
      rw [List.foldl_append, List.foldl_cons, List.foldl_nil, getD_fill _ _ (by rw [hpl]; omega), hpl, getD_right (by rw [hpl]; omega), hpl] at h1
      have hp1 : pre.length ≤ 1 := by simp at hp; omega
      have e1 : 9 - 3 * (pre ++ [k]).length + (3 * pre.length + (j - 6)) = j := by simp; omega
      have e2 : 12 - (3 * pre.length + 3) + (3 * pre.length + (j - 6)) = 9 + (j - 6) := by omega
      rw [e1, e2] at h1
      rw [h1]
      have e3 : 3 * pre.length + (j - 6) - 3 * pre.length = j - 6 := by omega
      rw [e3]
      obtain rfl | rfl | rfl : j = 6 ∨ j = 7 ∨ j = 8 := by omega
      all_goals simp [hhl]

/-- Peeling the header of the last mix gives the receiver. -/
theorem plain_last (r : Int) (f names : List Int) (k : Int) (hfl : f.length ≤ 6) (hr : 0 ≤ r ∧ r ≤ 990) :
    (plainF (hdr r f [k] names) k).getD 0 0 = 1 ∧ (plainF (hdr r f [k] names) k).getD 1 0 = r := by
  have hll := lastL_len r hfl
  have h0 := at2_bd k 0
  have h1 := at2_bd k 1
  have e : hdr r f [k] names = onL (lastL r f.length) k ++ f := rfl
  have l0 : (lastL r f.length).getD 0 0 = 1 := rfl
  have l1 : (lastL r f.length).getD 1 0 = r := rfl
  unfold plainF
  rw [e]
  constructor
  · rw [getD_off _ _ (by simp; omega), getD_left (by simp [onL_len, hll]; omega), getD_left (by rw [onL_len, hll]; omega), getD_on _ _ (by rw [hll]; omega), l0]; omega
  · rw [getD_off _ _ (by simp; omega), getD_left (by simp [onL_len, hll]; omega), getD_left (by rw [onL_len, hll]; omega), getD_on _ _ (by rw [hll]; omega), l1]; omega

theorem body_comm (ks b : List Int) (k : Int) : ks.foldl onL (onL b k) = onL (ks.foldl onL b) k := by
  induction ks generalizing b with
  | nil => rfl
  | cons k2 ks ih => rw [List.foldl_cons, List.foldl_cons, on_on, ih]
theorem body_len (ks b : List Int) : (bodyF b ks).length = b.length := by
  unfold bodyF
  induction ks generalizing b with
  | nil => rfl
  | cons k ks ih => rw [List.foldl_cons, ih, onL_len]
theorem body_ok (ks b : List Int) (h : okL b = true) : okL (bodyF b ks) = true := by
  unfold bodyF
  induction ks generalizing b with
  | nil => exact h
  | cons k ks ih => exact ih _ (onL_ok k (okL_iff.1 h).2)
theorem body_off (ks b : List Int) (k : Int) (h : okL b = true) : offL (bodyF b (k :: ks)) k = bodyF b ks := by
  unfold bodyF
  rw [List.foldl_cons, body_comm, off_on k]
  exact body_ok ks b h

/-- Packets and peeled packets. -/
structure Pkt where
  el : Int
  hd : List Int
  tag : Int
  bd : List Int
structure Pld where
  kind : Int
  next : Int
  pk : Pkt
def Pkt.zero : Pkt := ⟨0, [], 0, []⟩
def Pld.zero : Pld := ⟨0, 0, Pkt.zero⟩
def inName (x : Int) : Bool := decide (0 ≤ x ∧ x ≤ 7)
theorem inName_iff {x : Int} : inName x = true ↔ 0 ≤ x ∧ x ≤ 7 := by unfold inName; simp
def pktOk (p : Pkt) : Bool := inG p.el && (okL p.hd && (decide (p.hd.length = 9) && (inN p.tag && (okL p.bd && decide (p.bd.length = 6)))))
theorem pktOk_iff {p : Pkt} : pktOk p = true ↔ inG p.el = true ∧ okL p.hd = true ∧ p.hd.length = 9 ∧ inN p.tag = true ∧ okL p.bd = true ∧ p.bd.length = 6 := by simp [pktOk]
def makeOk (secret : Int) (pubs names : List Int) (r : Int) (letter : List Int) : Bool :=
  packOk letter && (inG secret && (pubsOk pubs && (decide (names.length = pubs.length) && (names.all inName && inName r))))
theorem makeOk_iff {secret : Int} {pubs names : List Int} {r : Int} {letter : List Int} : makeOk secret pubs names r letter = true ↔
    packOk letter = true ∧ inG secret = true ∧ pubsOk pubs = true ∧ names.length = pubs.length ∧ (∀ x ∈ names, inName x = true) ∧ inName r = true := by simp [makeOk]
/-- The packet of a path that begins with the changed secret x; f: the filler of the whole path; b: the body. -/
def pkt (x : Int) (pubs names : List Int) (r : Int) (f b : List Int) : Pkt :=
  ⟨mulG x 5, hdr r f (keysF x pubs) names, tagL ((keysF x pubs).headD 0) (hdr r f (keysF x pubs) names), bodyF b (keysF x pubs)⟩
def makeF (secret : Int) (pubs names : List Int) (r : Int) (letter : List Int) : Pkt :=
  bif makeOk secret pubs names r letter then pkt secret pubs names r (fillF (keysF secret pubs)) (packL letter) else Pkt.zero
def keyOf (secret : Int) (p : Pkt) : Int := mulG secret p.el
def peelRaw (secret : Int) (p : Pkt) : Pld :=
  ⟨(plainF p.hd (keyOf secret p)).getD 0 0, (plainF p.hd (keyOf secret p)).getD 1 0,
    ⟨mulG p.el (facG (keyOf secret p)), (plainF p.hd (keyOf secret p)).drop 3, (plainF p.hd (keyOf secret p)).getD 2 0, offL p.bd (keyOf secret p)⟩⟩
def peelOk (secret : Int) (p : Pkt) : Bool :=
  inG secret && (pktOk p && (decide (tagL (keyOf secret p) p.hd = p.tag) && (decide (0 ≤ (peelRaw secret p).kind ∧ (peelRaw secret p).kind ≤ 1) && inName (peelRaw secret p).next)))
def peelF (secret : Int) (p : Pkt) : Pld := bif peelOk secret p then peelRaw secret p else Pld.zero
theorem peelOk_iff {secret : Int} {p : Pkt} : peelOk secret p = true ↔ inG secret = true ∧ pktOk p = true ∧ tagL (keyOf secret p) p.hd = p.tag ∧ (0 ≤ (peelRaw secret p).kind ∧ (peelRaw secret p).kind ≤ 1) ∧ inName (peelRaw secret p).next = true := by simp [peelOk]
theorem peelF_yes {secret : Int} {p : Pkt} (h : peelOk secret p = true) : peelF secret p = peelRaw secret p := by simp [peelF, h]
theorem peelF_no {secret : Int} {p : Pkt} (h : peelOk secret p = false) : peelF secret p = Pld.zero := by simp [peelF, h]
theorem makeF_yes {secret : Int} {pubs names : List Int} {r : Int} {letter : List Int} (h : makeOk secret pubs names r letter = true) : makeF secret pubs names r letter = pkt secret pubs names r (fillF (keysF secret pubs)) (packL letter) := by simp [makeF, h]
theorem makeF_no {secret : Int} {pubs names : List Int} {r : Int} {letter : List Int} (h : makeOk secret pubs names r letter = false) : makeF secret pubs names r letter = Pkt.zero := by simp [makeF, h]

theorem keysF_len (x : Int) (ps : List Int) : (keysF x ps).length = ps.length := by
  induction ps generalizing x with
  | nil => rfl
  | cons p ps ih => simp [keysF, ih]
theorem keysF_in (x : Int) (ps : List Int) (hx : inG x = true) (hp : ∀ p ∈ ps, inG p = true) : ∀ k ∈ keysF x ps, inG k = true := by
  induction ps generalizing x with
  | nil => simp [keysF]
  | cons p ps ih =>
    intro k hk
    have hk1 : inG (mulG x p) = true := mulG_pos hx (hp p (by simp))
    rcases List.mem_cons.1 (show k ∈ mulG x p :: keysF (mulG x (facG (mulG x p))) ps from hk) with h | h
    · subst h; exact hk1
    · exact ih _ (mulG_pos hx (facG_pos hk1)) (fun q hq => hp q (by simp [hq])) k h

/-- The key that a mix shares with the sender. -/
theorem key_eq {x a : Int} (hx : inG x = true) (ha : inG a = true) : mulG a (mulG x 5) = mulG x (mulG a 5) := by
  rw [mulG_assoc ha hx (by decide), mulG_assoc hx ha (by decide), mulG_comm a x]
theorem el_next {x y : Int} (hx : inG x = true) (hy : inG y = true) : mulG (mulG x 5) y = mulG (mulG x y) 5 := by
  rw [← mulG_assoc hx (by decide) hy, ← mulG_assoc hx hy (by decide), mulG_comm 5 y]

/-- One step of the way: the mix with secret a, and more mixes behind it. -/
theorem step_next {x a a2 r : Int} {as names f b pre : List Int} (hx : inG x = true) (ha : inG a = true)
    (hp : pre.length + (a2 :: as).length ≤ 2) (hf : f = ((pre ++ keysF x ((a :: a2 :: as).map (mulG · 5))).dropLast).foldl fillStep [])
    (hn : inName (names.getD 1 0) = true) (hb : okL b = true) (hb6 : b.length = 6) :
    peelOk a (pkt x ((a :: a2 :: as).map (mulG · 5)) names r f b) = true ∧
    peelRaw a (pkt x ((a :: a2 :: as).map (mulG · 5)) names r f b) =
      ⟨0, names.getD 1 0, pkt (mulG x (facG (mulG x (mulG a 5)))) ((a2 :: as).map (mulG · 5)) names.tail r f b⟩ := by
  have hk : inG (mulG x (mulG a 5)) = true := mulG_pos hx (mulG_pos ha (by decide))
  have hx2 : inG (mulG x (facG (mulG x (mulG a 5)))) = true := mulG_pos hx (facG_pos hk)
  have hnn := inName_iff.1 hn
  have ek : keysF x ((a :: a2 :: as).map (mulG · 5)) = mulG x (mulG a 5) :: keysF (mulG x (facG (mulG x (mulG a 5)))) ((a2 :: as).map (mulG · 5)) := rfl
  have ek2 : ∃ k2 ks, keysF (mulG x (facG (mulG x (mulG a 5)))) ((a2 :: as).map (mulG · 5)) = k2 :: ks ∧ ks.length = as.length := ⟨_, _, rfl, by rw [keysF_len]; simp⟩
  obtain ⟨k2, ks, ek2, hks⟩ := ek2
  have hkey : keyOf a (pkt x ((a :: a2 :: as).map (mulG · 5)) names r f b) = mulG x (mulG a 5) := key_eq hx ha
  rw [ek, ek2] at hf
  have hpl := plain_next r f pre ks names (mulG x (mulG a 5)) k2 (by simp [hks] at hp ⊢; omega) hf (by omega)
  have hfl : f.length ≤ 6 := by rw [hf, foldFill_len]; simp [hks] at hp ⊢; omega
  have hin : ∀ x ∈ f, 0 ≤ x ∧ x ≤ 990 := by rw [hf]; exact fill_in _ [] (by simp)
  have hraw : peelRaw a (pkt x ((a :: a2 :: as).map (mulG · 5)) names r f b) =
      ⟨0, names.getD 1 0, pkt (mulG x (facG (mulG x (mulG a 5)))) ((a2 :: as).map (mulG · 5)) names.tail r f b⟩ := by
    unfold peelRaw
    rw [hkey]
    have e1 : (pkt x ((a :: a2 :: as).map (mulG · 5)) names r f b).hd = hdr r f (mulG x (mulG a 5) :: k2 :: ks) names := by unfold pkt; rw [ek, ek2]
    have e2 : (pkt x ((a :: a2 :: as).map (mulG · 5)) names r f b).bd = bodyF b (mulG x (mulG a 5) :: k2 :: ks) := by unfold pkt; rw [ek, ek2]
    have e3 : (pkt x ((a :: a2 :: as).map (mulG · 5)) names r f b).el = mulG x 5 := rfl
    rw [e1, e2, e3, hpl, body_off _ _ _ hb, el_next hx (facG_pos hk)]
    unfold pkt
    rw [ek2]
    simp
  refine ⟨?_, hraw⟩
  rw [peelOk_iff, hraw, hkey]
  refine ⟨ha, pktOk_iff.2 ⟨mulG_pos hx (by decide), ?_, ?_, ?_, ?_, ?_⟩, ?_, ⟨by show (0 : Int) ≤ 0; omega, by show (0 : Int) ≤ 1; omega⟩, hn⟩
  · show okL (hdr r f (keysF x _) names) = true
    rw [ek]; exact hdr_ok r f hfl hin _ _ _
  · show (hdr r f (keysF x _) names).length = 9
    rw [ek]; exact hdr_len r f hfl _ _ _
  · exact inN_iff.2 (tagL_bd _ _)
  · exact body_ok _ _ hb
  · show (bodyF b _).length = 6
    rw [body_len, hb6]
  · show tagL _ (hdr r f (keysF x _) names) = tagL ((keysF x _).headD 0) _
    rw [ek]; rfl

/-- The last step of the way. -/
theorem step_last {x a r : Int} {names f b pre : List Int} (hx : inG x = true) (ha : inG a = true)
    (hp : pre.length ≤ 2) (hf : f = ((pre ++ keysF x [mulG a 5]).dropLast).foldl fillStep []) (hr : inName r = true) (hb : okL b = true) (hb6 : b.length = 6) :
    peelOk a (pkt x [mulG a 5] names r f b) = true ∧ (peelRaw a (pkt x [mulG a 5] names r f b)).kind = 1 ∧ (peelRaw a (pkt x [mulG a 5] names r f b)).next = r ∧ (peelRaw a (pkt x [mulG a 5] names r f b)).pk.bd = b := by
  have hk : inG (mulG x (mulG a 5)) = true := mulG_pos hx (mulG_pos ha (by decide))
  have hrn := inName_iff.1 hr
  have ek : keysF x [mulG a 5] = [mulG x (mulG a 5)] := rfl
  have hkey : keyOf a (pkt x [mulG a 5] names r f b) = mulG x (mulG a 5) := key_eq hx ha
  rw [ek] at hf
  have hfl : f.length ≤ 6 := by rw [hf, foldFill_len]; simp; omega
  have hin : ∀ x ∈ f, 0 ≤ x ∧ x ≤ 990 := by rw [hf]; exact fill_in _ [] (by simp)
  have hpl := plain_last r f names (mulG x (mulG a 5)) hfl (by omega)
  have h1 : (peelRaw a (pkt x [mulG a 5] names r f b)).kind = 1 := by unfold peelRaw; rw [hkey]; exact hpl.1
  have h2 : (peelRaw a (pkt x [mulG a 5] names r f b)).next = r := by unfold peelRaw; rw [hkey]; exact hpl.2
  have h3 : (peelRaw a (pkt x [mulG a 5] names r f b)).pk.bd = b := by
    unfold peelRaw; rw [hkey]
    exact body_off [] b _ hb
  refine ⟨?_, h1, h2, h3⟩
  rw [peelOk_iff, h1, h2, hkey]
  refine ⟨ha, pktOk_iff.2 ⟨mulG_pos hx (by decide), ?_, ?_, ?_, ?_, ?_⟩, ?_, by decide, hr⟩
  · exact hdr_ok r f hfl hin _ _ _
  · exact hdr_len r f hfl _ _ _
  · exact inN_iff.2 (tagL_bd _ _)
  · exact body_ok _ _ hb
  · show (bodyF b _).length = 6
    rw [body_len, hb6]
  · rfl

/-- For the loop that makes the filler. -/
def fillTo (out : List Int) (key : Int) (q : Nat) : List Int := (fillStep out key).take q
theorem fillTo_succ (out : List Int) (key : Int) {q : Nat} (h : q < out.length + 3) :
    fillTo out key (q + 1) = fillTo out key q ++ [((out ++ [0, 0, 0]).getD q 0 + 991 - at2 key (12 - (out.length + 3) + q)) % 991] := by
  unfold fillTo
  rw [take_succ_getD (by rw [fillStep_len]; exact h), getD_fill out key h]
theorem fillTo_all (out : List Int) (key : Int) {q : Nat} (h : out.length + 3 ≤ q) : fillTo out key q = fillStep out key := by
  unfold fillTo; rw [List.take_of_length_le (by rw [fillStep_len]; exact h)]
def fillAt (keys : List Int) (k : Nat) : List Int := (keys.take k).foldl fillStep []
theorem fillAt_succ {keys : List Int} {k : Nat} (h : k < keys.length) : fillAt keys (k + 1) = fillStep (fillAt keys k) (keys.getD k 0) := by
  unfold fillAt; rw [take_succ_getD h, List.foldl_append]; rfl
theorem fillAt_len {keys : List Int} {k : Nat} (h : k ≤ keys.length) : (fillAt keys k).length = 3 * k := by
  unfold fillAt; rw [foldFill_len, List.length_take]; simp; omega
theorem fillAt_all {keys : List Int} {k : Nat} (h : k = keys.length - 1) : fillAt keys k = fillF keys := by
  unfold fillAt fillF; rw [h, List.dropLast_eq_take]
theorem fillAt_in (keys : List Int) (k : Nat) : ∀ x ∈ fillAt keys k, 0 ≤ x ∧ x ≤ 990 := fill_in _ [] (by simp)

theorem drop_getD {xs : List Int} {k : Nat} (h : k < xs.length) : xs.drop k = xs.getD k 0 :: xs.drop (k + 1) := by
  rw [List.drop_eq_getElem_cons h, List.getD_eq_getElem?_getD, List.getElem?_eq_getElem h]; rfl
/-- The header for one mix out of that for the next. -/
theorem hdr_step (r : Int) (f ks ns : List Int) {s : Nat} (h : s + 1 < ks.length) :
    hdr r f (ks.drop s) (ns.drop s) = onL ([0, ns.getD (s + 1) 0, tagL (ks.getD (s + 1) 0) (hdr r f (ks.drop (s + 1)) (ns.drop (s + 1)))] ++ (hdr r f (ks.drop (s + 1)) (ns.drop (s + 1))).take 6) (ks.getD s 0) := by
  rw [drop_getD (xs := ks) (k := s) (by omega), drop_getD (xs := ks) (k := s + 1) h]
  show onL _ _ = _
  rw [getD_drop, List.tail_drop]
theorem hdr_lastmix (r : Int) (f ks ns : List Int) {s : Nat} (h : s + 1 = ks.length) : hdr r f (ks.drop s) ns = onL (lastL r f.length) (ks.getD s 0) ++ f := by
  rw [drop_getD (xs := ks) (k := s) (by omega), h, List.drop_length]
  rfl
theorem hdr_drop_len (r : Int) (f ks ns : List Int) (hf : f.length ≤ 6) {s : Nat} (h : s < ks.length) : (hdr r f (ks.drop s) ns).length = 9 := by
  rw [drop_getD h]; exact hdr_len r f hf _ _ _
theorem hdr_drop_ok (r : Int) (f ks ns : List Int) (hf : f.length ≤ 6) (hi : ∀ x ∈ f, 0 ≤ x ∧ x ≤ 990) {s : Nat} (h : s < ks.length) : okL (hdr r f (ks.drop s) ns) = true := by
  rw [drop_getD h]; exact hdr_ok r f hf hi _ _ _
theorem plain_drop_ok (r : Int) (f ks ns : List Int) (hf : f.length ≤ 6) (hi : ∀ x ∈ f, 0 ≤ x ∧ x ≤ 990) {s : Nat} (h : s < ks.length) (m : Int) (hm : 0 ≤ m ∧ m ≤ 990) :
    okL ([0, m, tagL (ks.getD s 0) (hdr r f (ks.drop s) ns)] ++ (hdr r f (ks.drop s) ns).take 6) = true := by
  rw [drop_getD h]; exact plain_ok r f hf hi _ m _ ns hm
theorem lastL_ok (r : Int) {m : Nat} (hr : 0 ≤ r ∧ r ≤ 990) : okL (lastL r m) = true := by
  refine okL_iff.2 ⟨fun x hx => ?_, by simp [lastL]; omega⟩
  unfold lastL at hx
  rcases List.mem_append.1 hx with h | h
  · simp at h; omega
  · have := (List.mem_replicate.1 h).2; omega
theorem lastL_to (r : Int) {m j : Nat} (h : j = 6 - m) : [1, r, 0] ++ List.replicate j 0 = lastL r m := by subst h; rfl
theorem fillF_in (ks : List Int) : ∀ x ∈ fillF ks, 0 ≤ x ∧ x ≤ 990 := fill_in _ [] (by simp)

end Go.Proofs.Ytnjcpbkpcmemeac.Pm
