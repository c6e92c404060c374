/-
  The laws of chapter 13: each returns true and writes nothing that was there.
-/
import Derived.Test.YtmmnpmfkpieoiaaDr8b
import Derived.Test.YtmmnpmfkpieoiaaIm8h
import Derived.Test.YtmmnpmfkpieoiaaH8
import Derived.Test.YtmmnpmfkpieoiaaIla
import Derived.Deep.RegionLaw
import Derived.Deep.Cut
namespace Go.Proofs.Ytmmnpmfkpieoiaa
open Go.RowKit
namespace Law8
open Il Sl Fo Cm Cs Sg Gm H8 LawB Rd

/-- A variable holds a cache. -/
def Vr (w0 : Nat) (w : World) (b : Nat) (c : Ch) (A : Option Addr) (k : Nat) : Prop := Blk w b #[.int .i64 c.ep, .slice A c.sl.length k] 26 ∧ Sts w0 w.heap.size w A c.sl.length k c.sl
theorem Vr.below {w0 K b k : Nat} {w w' : World} {c : Ch} {A : Option Addr} (h : Vr w0 w b c A k) (hb : Below K w w') (hB : w.heap.size ≤ K) : Vr w0 w' b c A k := ⟨Blk.below h.1 hb hB, (h.2.below hb hB).mono (Nat.le_refl _) hb.size⟩
theorem Vr.st {w0 b k : Nat} {w : World} {c : Ch} {A : Option Addr} (h : Vr w0 w b c A k) : Sts w0 w.heap.size w A c.sl.length k c.sl := h.2
theorem vr_new {w0 lo hi k : Nat} {w : World} {c : Ch} {A : Option Addr} (h : Sts lo hi w A c.sl.length k c.sl) (hlo : w0 ≤ lo) : Vr w0 (w.alloc (.cells #[.int .i64 c.ep, .slice A c.sl.length k] 26)) w.heap.size c A k := by
  have hal : Below w.heap.size w (w.alloc (.cells #[.int .i64 c.ep, .slice A c.sl.length k] 26)) := (Below.refl _ _).alloc (Nat.le_refl _) _
  exact ⟨blk_new _ _ _, ((h.top (Nat.le_refl _)).below hal (Nat.le_refl _)).mono hlo hal.size⟩
theorem addI {c c1 : Ch} {e key n1 : Int} {A : Option Addr} {k lo hi : Nat} {w : World} (h : addF c e key = c1 ∧ addN c e key = n1) (hx : Sts lo hi w A c.sl.length k c.sl) : Calls Try.prog 24 #[.agg #[.int .i64 c.ep, .slice A c.sl.length k], .int .i64 e, .int .i64 key] w (CacheP c1 (.int .i64 n1) w) := by
  obtain ⟨rfl, rfl⟩ := h
  exact Im8.CacheAdd c e key A _ k lo hi w hx
theorem addS {c c1 : Ch} {e key n1 : Int} {A : Option Addr} {k lo hi : Nat} {w : World} (h : addF c e key = c1 ∧ addN c e key = n1) (hx : Sts lo hi w A c.sl.length k c.sl) : Calls Try.prog 25 #[.agg #[.int .i64 c.ep, .slice A c.sl.length k], .int .i64 e, .int .i64 key] w (CacheP c1 (.int .i64 n1) w) := by
  obtain ⟨rfl, rfl⟩ := h
  exact Sp8.CacheAdd c e key A _ k lo hi w hx
theorem sameV {c : Ch} {A B : Option Addr} {k d l1 h1 l2 h2 : Nat} {w : World} (i1 : Sts l1 h1 w A c.sl.length k c.sl) (i2 : Sts l2 h2 w B c.sl.length d c.sl) : Calls Try.prog 20 #[.agg #[.int .i64 c.ep, .slice A c.sl.length k], .agg #[.int .i64 c.ep, .slice B c.sl.length d]] w (BoolB true w) := sameCache c A B _ k d l1 h1 l2 h2 w i1 i2
theorem keysI {c : Ch} {e : Int} {xs : List Int} {A : Option Addr} {k lo hi : Nat} {w : World} (h : keysF c e = xs) (hx : Sts lo hi w A c.sl.length k c.sl) : Calls Try.prog 21 #[.agg #[.int .i64 c.ep, .slice A c.sl.length k], .int .i64 e] w (NewInts w xs) := by
  subst h
  exact Im8.CacheKeys c e A _ k lo hi w hx
theorem keysS {c : Ch} {e : Int} {xs : List Int} {A : Option Addr} {k lo hi : Nat} {w : World} (h : keysF c e = xs) (hx : Sts lo hi w A c.sl.length k c.sl) : Calls Try.prog 32 #[.agg #[.int .i64 c.ep, .slice A c.sl.length k], .int .i64 e] w (NewInts w xs) := by
  subst h
  exact Sp8.CacheKeys c e A _ k lo hi w hx
theorem sameK {l1 h1 l2 h2 n m c d : Nat} {w : World} {A B : Option Addr} {xs : List Int} (i1 : Ints l1 h1 w A n c xs) (i2 : Ints l2 h2 w B m d xs) : Calls Try.prog 30 #[.slice A n c, .slice B m d] w (BoolB true w) := by
  refine (Hlp.sameInts l1 h1 l2 h2 A B n m c d xs xs w i1 i2).mono ?_
  rintro e w' ⟨rfl, q, rfl⟩
  rw [decide_eq_true rfl]
  exact ⟨rfl, ⟨rfl, rfl, rfl, Nat.le_refl _, fun _ _ => rfl⟩⟩
theorem code_any {w : World} {A : Option Addr} {n c : Nat} (h : CodeIs w A n c) : ∀ w', Below w.heap.size w w' → CodeIs w' A n c := fun w' hb => by
  refine ⟨h.1, h.2.1, fun hn => ?_⟩
  obtain ⟨b, off, e, hz, hc⟩ := h.2.2 hn
  refine ⟨b, off, e, Nat.lt_of_lt_of_le hz hb.size, fun j hj => ?_⟩
  obtain ⟨u, hu, hcell⟩ := hc j hj
  exact ⟨u, hu, (hb.cell (p := ⟨b, off + j, none⟩) hz).trans hcell⟩
theorem drew_bl {K : Nat} {w w' : World} (h : Below K w w') (q : Nat) : Below K w (w'.drewN q) := ⟨h.os, h.tape, h.output, h.size, h.block⟩
theorem newI {e : Int} {c1 : Ch} {ok : Bool} (h : newF e = c1 ∧ epOk e = ok) (w : World) : Calls Try.prog 18 #[.int .i64 e] w (CacheP c1 (.bool ok) w) := by
  obtain ⟨rfl, rfl⟩ := h
  exact Im8.CacheNew e w
theorem newS {e : Int} {c1 : Ch} {ok : Bool} (h : newF e = c1 ∧ epOk e = ok) (w : World) : Calls Try.prog 19 #[.int .i64 e] w (CacheP c1 (.bool ok) w) := by
  obtain ⟨rfl, rfl⟩ := h
  exact Sp8.CacheNew e w
theorem turnI {c c1 : Ch} {ok : Bool} {A : Option Addr} {k lo hi : Nat} {w : World} (h : turnF c = c1 ∧ turnB c = ok) (hx : Sts lo hi w A c.sl.length k c.sl) : Calls Try.prog 28 #[.agg #[.int .i64 c.ep, .slice A c.sl.length k]] w (CacheP c1 (.bool ok) w) := by
  obtain ⟨rfl, rfl⟩ := h
  exact Im8.CacheTurn c A _ k lo hi w hx
theorem turnS {c c1 : Ch} {ok : Bool} {A : Option Addr} {k lo hi : Nat} {w : World} (h : turnF c = c1 ∧ turnB c = ok) (hx : Sts lo hi w A c.sl.length k c.sl) : Calls Try.prog 29 #[.agg #[.int .i64 c.ep, .slice A c.sl.length k]] w (CacheP c1 (.bool ok) w) := by
  obtain ⟨rfl, rfl⟩ := h
  exact Sp8.CacheTurn c A _ k lo hi w hx
theorem vr_drew {w0 b k : Nat} {w : World} {c : Ch} {A : Option Addr} (h : Vr w0 w b c A k) : Vr w0 w.drew b c A k := ⟨h.1, h.2.drewN 1⟩
theorem new_of {e : Int} {c1 : Ch} (h : epOk e = true) (hc : newF e = c1) : 0 ≤ e ∧ e ≤ 99 ∧ (chOk c1 = true ∧ c1.ep = e) ∧ ∀ e2, keysF c1 e2 = [] := by
  have hok : chOk c1 = true := by rw [← hc]; exact newF_ok h
  have he : 0 ≤ e ∧ e ≤ 99 := of_decide_eq_true h
  have hc1 : c1 = ⟨e, [[], [], []]⟩ := by rw [← hc]; unfold newF; rw [h]; rfl
  refine ⟨he.1, he.2, ⟨hok, by rw [hc1]⟩, fun e2 => ?_⟩
  rcases slotIx_bd c1.ep e2 with hs | ⟨k, hs, hk, _⟩
  · exact keys_wrong hok hs
  · rw [keys_in hok hs, hc1]
    obtain rfl | rfl | rfl : k = 0 ∨ k = 1 ∨ k = 2 := by omega
    · rfl
    · rfl
    · rfl
theorem turn_of {c c1 : Ch} (h : turnB c = true) (hc : turnF c = c1) : (0 ≤ c.ep ∧ c.ep < 99) ∧ c1.ep = c.ep + 1 ∧ chOk c1 = true ∧ (∀ e, c.ep - 1 ≤ e → e ≤ c.ep → keysF c e = keysF c1 e) ∧ keysF c1 c1.ep = [] ∧ chOk c = true ∧ c1 = ⟨c.ep + 1, c.sl.drop 1 ++ [[]]⟩ := by
  cases hok : chOk c
  · rw [(turn_no hok).1] at h; cases h
  by_cases h9 : c.ep < 99
  · have h1 := (turn_yes hok h9).2
    have hok1 : chOk c1 = true := by rw [← hc]; exact turnF_ok hok
    rw [hc] at h1
    obtain ⟨q1, q2, q3⟩ := chOk_iff.1 hok
    subst h1
    obtain ⟨ep, sl⟩ := c
    have hsl := Im8.three_sl q3
    dsimp only at *
    refine ⟨⟨q2.1, h9⟩, rfl, hok1, fun e e1 e2 => ?_, ?_, rfl, rfl⟩
    · by_cases h0 : 0 ≤ e
      · have s1 : slotIx ep e = ((2 - (ep - e)).toNat : Int) := by rw [slotIx_yes (by omega)]; omega
        have s2 : slotIx (ep + 1) e = ((1 - (ep - e)).toNat : Int) := by rw [slotIx_yes (by omega)]; omega
        rw [keys_in hok s1, keys_in hok1 s2]
        show slAt sl _ = slAt (sl.drop 1 ++ [[]]) _
        rw [hsl]
        have h3 : e = ep - 1 ∨ e = ep := by omega
        rcases h3 with h3 | h3
        · rw [show (2 - (ep - e)).toNat = 1 by omega, show (1 - (ep - e)).toNat = 0 by omega]; rfl
        · rw [show (2 - (ep - e)).toNat = 2 by omega, show (1 - (ep - e)).toNat = 1 by omega]; rfl
      · rw [keys_wrong hok (slotIx_no (by show ¬ _; dsimp only; omega)), keys_wrong hok1 (slotIx_no (by show ¬ _; dsimp only; omega))]
    · have s2 : slotIx (ep + 1) (ep + 1) = ((2 : Nat) : Int) := by rw [slotIx_yes (by omega)]; omega
      rw [keys_in hok1 s2]
      show slAt (sl.drop 1 ++ [[]]) 2 = []
      rw [hsl]; rfl
  · rw [(turn_last hok h9).1] at h; cases h
def TurnK (c : Ch) (n : Nat) (dd : Ch) : Prop := chOk dd = true ∧ dd.ep = c.ep + (n : Int) ∧ ∀ k, 3 - n ≤ k → slAt dd.sl k = []
theorem slAt_out {sl : List (List Int)} {k : Nat} (h : sl.length ≤ k) : slAt sl k = [] := by
  unfold slAt
  rw [List.getD_eq_getElem?_getD, List.getElem?_eq_none h]; rfl
theorem turned_at {sl : List (List Int)} (h : sl.length = 3) {k : Nat} : slAt (sl.drop 1 ++ [[]]) k = slAt sl (k + 1) := by
  rw [Im8.three_sl h]
  rcases Nat.lt_or_ge k 3 with q | q
  · obtain rfl | rfl | rfl : k = 0 ∨ k = 1 ∨ k = 2 := by omega
    · rfl
    · rfl
    · rfl
  · rw [slAt_out (by simp; omega), slAt_out (by simp; omega)]
theorem turnK_next {c dd d2 : Ch} {n : Nat} (h : TurnK c n dd) (hb : turnB dd = true) (hf : turnF dd = d2) (hn : n ≤ 2) : TurnK c (1 + n) d2 ∧ TurnK c (n + 1) d2 := by
  obtain ⟨_, h1, h2, _, _, _, h3⟩ := turn_of hb hf
  have key : TurnK c (n + 1) d2 := by
    refine ⟨h2, by rw [h1, h.2.1]; push_cast; omega, fun k hk => ?_⟩
    rw [h3]
    show slAt (dd.sl.drop 1 ++ [[]]) k = []
    rw [turned_at (chOk_iff.1 h.1).2.2]
    exact h.2.2 (k + 1) (by omega)
  exact ⟨by rw [Nat.add_comm]; exact key, key⟩
theorem turnK_zero {c : Ch} (h : chOk c = true) : TurnK c 0 c := ⟨h, by simp, fun k hk => slAt_out (by have := (chOk_iff.1 h).2.2; omega)⟩
theorem turnK_can {c dd : Ch} {n : Nat} (h : TurnK c n dd) (hn : c.ep + (n : Int) < 99) : turnB dd = true := (turn_yes h.1 (by rw [h.2.1]; exact hn)).1
theorem turnK_keys {c dd : Ch} (h : TurnK c 3 dd) (e : Int) : keysF dd e = [] := by
  rcases slotIx_bd dd.ep e with hs | ⟨k, hs, _⟩
  · exact keys_wrong h.1 hs
  · rw [keys_in h.1 hs]; exact h.2.2 k (by omega)
theorem vr_put {w0 lo hi b k' : Nat} {w : World} {v0 v1 : Value} {c' : Ch} {A' : Option Addr} (h : Blk w b #[v0, v1] 26) (hs : Sts lo hi w A' c'.sl.length k' c'.sl) (hb : b < lo) (h0 : w0 ≤ lo) (hh : hi ≤ w.heap.size) :
    Vr w0 ((w.setCell ⟨b, 0, none⟩ (.int .i64 c'.ep)).setCell ⟨b, 1, none⟩ (.slice A' c'.sl.length k')) b c' A' k' := by
  have hsz : ((w.setCell ⟨b, 0, none⟩ (.int .i64 c'.ep)).setCell ⟨b, 1, none⟩ (.slice A' c'.sl.length k')).heap.size = w.heap.size := by simp [World.setCell]
  exact ⟨blk_set1 (blk_set0 h), (hs.keep (Nat.le_of_eq hsz.symm) fun x q1 _ _ => (Below.heap_setCell _ _ _ _ (show x ≠ b by omega)).trans (Below.heap_setCell _ _ _ _ (show x ≠ b by omega))).mono h0 (by rw [hsz]; exact hh)⟩
theorem keys_none {c : Ch} {e : Int} (h : ¬ (0 ≤ e ∧ e ≤ c.ep ∧ c.ep - e ≤ 2)) : keysF c e = [] := by
  cases hok : chOk c
  · exact keys_no e hok
  · exact keys_wrong hok (slotIx_no h)
theorem add_ok {c : Ch} {e key n : Int} (hn : addN c e key = n) (h4 : ¬ n = 4) : chOk c = true ∧ inG key = true := by
  cases hok : chOk c
  · exact absurd (hn.symm.trans (add_bad e (.inl hok)).1) h4
  cases hik : inG key
  · exact absurd (hn.symm.trans (add_bad e (.inr hik)).1) h4
  exact ⟨rfl, rfl⟩
theorem codes_out {c c1 : Ch} {e key n : Int} (hok : chOk c = true) (hik : inG key = true) (hin : ¬ (0 ≤ e ∧ e ≤ c.ep ∧ c.ep - e ≤ 2)) (hn : addN c e key = n) (hc : addF c e key = c1) : n = 2 ∧ c = c1 := by
  have h := add_wrong hok hik (slotIx_no hin)
  exact ⟨hn.symm.trans h.1, (hc.symm.trans h.2).symm⟩
theorem codes_in {c c1 : Ch} {e key n : Int} {ks : List Int} (hok : chOk c = true) (hik : inG key = true) (hin : 0 ≤ e ∧ e ≤ c.ep ∧ c.ep - e ≤ 2) (hn : addN c e key = n) (hc : addF c e key = c1) (hk : keysF c e = ks) :
    (hasK ks key = true → n = 1 ∧ c = c1) ∧ (hasK ks key = false ∧ ks.length = 6 → n = 3 ∧ c = c1) ∧ (hasK ks key = false → ¬ ks.length = 6 → n = 0) := by
  rcases slotIx_bd c.ep e with hs | ⟨k, hs, _⟩
  · rw [slotIx_yes hin] at hs; omega
  have h := add_in hok hik hs
  have h6 := (slotOk_iff.1 (slots_at (chOk_iff.1 hok).1 (k := k))).1
  rw [keys_in hok hs] at hk
  subst hk
  refine ⟨fun hh => ?_, fun hh => ?_, fun hh h5 => ?_⟩
  · have q := addC_replay hh
    exact ⟨hn.symm.trans (h.1.trans q.1), (hc.symm.trans (h.2.trans q.2)).symm⟩
  · have q := addC_full hh.1 (by omega)
    exact ⟨hn.symm.trans (h.1.trans q.1), (hc.symm.trans (h.2.trans q.2)).symm⟩
  · exact hn.symm.trans (h.1.trans (addC_done hh (by omega)).1)
/-- A key that was added. -/
theorem done_of {c c1 : Ch} {e key : Int} (hn : addN c e key = 0) (hc : addF c e key = c1) : chOk c = true ∧ inG key = true ∧ ∃ k : Nat, slotIx c.ep e = k ∧ k < 3 ∧ hasK (slAt c.sl k) key = false ∧ (slAt c.sl k).length < 6 ∧ c1 = ⟨c.ep, c.sl.set k (insK (slAt c.sl k) key)⟩ := by
  cases hok : chOk c
  · rw [(add_bad e (.inl hok)).1] at hn; omega
  cases hik : inG key
  · rw [(add_bad e (.inr hik)).1] at hn; omega
  rcases slotIx_bd c.ep e with hs | ⟨k, hs, hk, _⟩
  · rw [(add_wrong hok hik hs).1] at hn; omega
  · rw [(add_in hok hik hs).1] at hn
    obtain ⟨h1, h2⟩ := addC_zero hn
    exact ⟨rfl, rfl, k, hs, hk, h1, h2, by rw [← hc, (add_in hok hik hs).2, (addC_done h1 h2).2]⟩
theorem slAt_set {sl : List (List Int)} {k i : Nat} {x : List Int} (hk : k < sl.length) : slAt (sl.set k x) i = if i = k then x else slAt sl i := by
  unfold slAt
  rw [List.getD_eq_getElem?_getD, List.getElem?_set]
  by_cases h : k = i
  · subst h
    rw [if_pos rfl, if_pos rfl, if_pos hk]; rfl
  · rw [if_neg h, if_neg (fun e => h e.symm), List.getD_eq_getElem?_getD]
theorem twice_at {c c1 : Ch} {e key : Int} (hn : addN c e key = 0) (hc : addF c e key = c1) : addF c1 e key = c1 ∧ addN c1 e key = 1 := by
  obtain ⟨hok, hik, k, hs, hk, h1, h2, rfl⟩ := done_of hn hc
  have hok1 : chOk ⟨c.ep, c.sl.set k (insK (slAt c.sl k) key)⟩ = true := by
    have h := addF_ok hok hik e
    rw [hc] at h; exact h
  have hl := (chOk_iff.1 hok).2.2
  have hh : hasK (slAt (c.sl.set k (insK (slAt c.sl k) key)) k) key = true := by
    rw [slAt_set (by omega), if_pos rfl, has_ins, decide_eq_true rfl]; rfl
  have hs1 : slotIx (⟨c.ep, c.sl.set k (insK (slAt c.sl k) key)⟩ : Ch).ep e = k := hs
  rw [(add_in hok1 hik hs1).1, (add_in hok1 hik hs1).2]
  exact ⟨(addC_replay hh).2, (addC_replay hh).1⟩
theorem done_ok {c c1 : Ch} {e key : Int} (hn : addN c e key = 0) (hc : addF c e key = c1) : chOk c1 = true := by
  obtain ⟨hok, hik, _⟩ := done_of hn hc
  rw [← hc]; exact addF_ok hok hik e
theorem add_keys {c c1 : Ch} {e key e2 : Int} {ka kb : List Int} (hn : addN c e key = 0) (hc : addF c e key = c1) (ha : keysF c e2 = ka) (hb : keysF c1 e2 = kb) :
    (e2 = e → kb.length = ka.length + 1 ∧ hasK kb key = true ∧ hasK ka key = false) ∧ (¬ e2 = e → ka = kb) := by
  have hok1 := done_ok hn hc
  obtain ⟨hok, hik, k, hs, hk, h1, h2, rfl⟩ := done_of hn hc
  have hl := (chOk_iff.1 hok).2.2
  refine ⟨fun he => ?_, fun he => ?_⟩
  · subst he
    have hs1 : slotIx (⟨c.ep, c.sl.set k (insK (slAt c.sl k) key)⟩ : Ch).ep e2 = k := hs
    rw [keys_in hok hs] at ha
    rw [keys_in hok1 hs1] at hb
    subst ha hb
    show (slAt (c.sl.set k _) k).length = _ ∧ hasK (slAt (c.sl.set k _) k) key = true ∧ _
    rw [slAt_set (by omega), if_pos rfl]
    exact ⟨insK_len _ _, by rw [has_ins, decide_eq_true rfl]; rfl, h1⟩
  · rw [← ha, ← hb]
    rcases slotIx_bd c.ep e2 with hs2 | ⟨k2, hs2, _, he2⟩
    · rw [keys_wrong hok hs2, keys_wrong hok1 hs2]
    · rw [keys_in hok hs2, keys_in hok1 hs2]
      show _ = slAt (c.sl.set k _) k2
      rw [slAt_set (by omega), if_neg]
      intro hkk
      subst hkk
      rcases slotIx_bd c.ep e with hs3 | ⟨k3, hs3, _, he3⟩
      · rw [hs] at hs3; omega
      · rw [hs] at hs3; omega
theorem order_eq {c d1 d2 d3 d4 : Ch} {e1 k1 e2 k2 : Int} (h1 : addN c e1 k1 = 0) (g1 : addF c e1 k1 = d1) (h2 : addN d1 e2 k2 = 0) (g2 : addF d1 e2 k2 = d2) (h3 : addN c e2 k2 = 0) (g3 : addF c e2 k2 = d3) (h4 : addN d3 e1 k1 = 0) (g4 : addF d3 e1 k1 = d4) : d4 = d2 := by
  obtain ⟨hok, _, i, hi, hi3, a1, _, rfl⟩ := done_of h1 g1
  obtain ⟨_, _, j, hj, hj3, b1, _, rfl⟩ := done_of h3 g3
  obtain ⟨_, _, j', hj', _, a2, _, rfl⟩ := done_of h2 g2
  obtain ⟨_, _, i', hi', _, b2, _, rfl⟩ := done_of h4 g4
  have hl := (chOk_iff.1 hok).2.2
  have ej : j' = j := by
    have : slotIx c.ep e2 = (j' : Int) := hj'
    rw [hj] at this; omega
  have ei : i' = i := by
    have : slotIx c.ep e1 = (i' : Int) := hi'
    rw [hi] at this; omega
  subst ej; subst ei
  show (⟨c.ep, (c.sl.set j' (insK (slAt c.sl j') k2)).set i' (insK (slAt (c.sl.set j' (insK (slAt c.sl j') k2)) i') k1)⟩ : Ch) = ⟨c.ep, (c.sl.set i' (insK (slAt c.sl i') k1)).set j' (insK (slAt (c.sl.set i' (insK (slAt c.sl i') k1)) j') k2)⟩
  congr 1
  rw [slAt_set (by omega), slAt_set (by omega)]
  by_cases hij : i' = j'
  · subst hij
    rw [if_pos rfl, if_pos rfl, List.set_set, List.set_set]
    by_cases hk : k1 = k2
    · subst hk
      exfalso
      have a2' : hasK (slAt (c.sl.set i' (insK (slAt c.sl i') k1)) i') k1 = false := a2
      rw [slAt_set (by omega), if_pos rfl, has_ins, decide_eq_true rfl] at a2'
      cases a2'
    · rw [insK_comm hk]
  · rw [if_neg hij, if_neg (fun e => hij e.symm), List.set_comm _ _ (fun e => hij e.symm)]
theorem done_ep {c : Ch} {e key : Int} (hn : addN c e key = 0) : 0 ≤ c.ep ∧ c.ep ≤ 99 := by
  obtain ⟨hok, _⟩ := done_of hn rfl
  exact (chOk_iff.1 hok).2.1

set_option maxRecDepth 20000 in
set_option maxHeartbeats 1000000 in
theorem fnCacheNew (A : Option Addr) (n c : Nat) (w : World) (h : CodeIs w A n c) :
    Calls Try.prog 3 #[.slice A n c] w (TruePost w) := by
  have HC := Lib.hid h
  clear h
  by_cases hn : 1048576 < n
  · go_enter Try.func3, Try.ntmps3
    go_wp2
    go_ret
    exact ⟨rfl, Below.refl _ _⟩
  have B : Hid (Below w.heap.size w w) := Below.refl _ _
  go_enter Try.func3, Try.ntmps3
  go_wp2_with fail
  ((with_reducible refine (DrawCacheNew _ _ _ _ HC.out).mono ?_); rintro e w1 ⟨ep, rfl, hp0, hp1, hb⟩)
  replace B := Lib.hid (B.out.trans (hb.mono B.out.size))
  have z1 := hb.size
  clear HC
  clear hb
  obtain ⟨d1, ok, HA⟩ : ∃ d1 ok, Hid (newF ep = d1 ∧ epOk ep = ok) := ⟨_, _, rfl, rfl⟩
  go_wp2_with fail
  ((with_reducible refine (newI HA.out _).mono ?_); rintro e w2 ⟨AV1, kV1, GV1, rfl, ho, hw, hb⟩)
  replace B := Lib.hid (B.out.trans (hb.mono B.out.size))
  have z2 := hb.size
  have RV1 := Lib.hid (ho.sts hw)
  clear ho hw
  clear hb
  have hal : Below w2.heap.size w2 (w2.alloc (.cells #[.int .i64 d1.ep, .slice AV1 d1.sl.length kV1] 26)) := (Below.refl _ _).alloc (Nat.le_refl _) _
  have V1 := Lib.hid (vr_new (w0 := w.heap.size) RV1.out (by omega))
  replace B := Lib.hid (B.out.trans (hal.mono B.out.size))
  have zzV1 := hal.size
  clear hal RV1
  go_wp2_with fail
  ((with_reducible refine (newS HA.out _).mono ?_); rintro e w3 ⟨AV2, kV2, GV2, rfl, ho, hw, hb⟩)
  replace V1 := Lib.hid (V1.out.below hb (Nat.le_refl _))
  replace B := Lib.hid (B.out.trans (hb.mono B.out.size))
  have z3 := hb.size
  have RV2 := Lib.hid (ho.sts hw)
  clear ho hw
  clear hb
  have hal : Below w3.heap.size w3 (w3.alloc (.cells #[.int .i64 d1.ep, .slice AV2 d1.sl.length kV2] 26)) := (Below.refl _ _).alloc (Nat.le_refl _) _
  have V2 := Lib.hid (vr_new (w0 := w.heap.size) RV2.out (by omega))
  replace V1 := Lib.hid (V1.out.below hal (Nat.le_refl _))
  replace B := Lib.hid (B.out.trans (hal.mono B.out.size))
  have zzV2 := hal.size
  clear hal RV2
  have e0 : (ok != ok) = false := by cases ok <;> rfl
  have e1 : (ok == ok) = true := by cases ok <;> rfl
  obtain ⟨V10, V11, V1f⟩ := two_cells V1.out.1
  obtain ⟨V20, V21, V2f⟩ := two_cells V2.out.1
  go_wp2_with fail
  ((with_reducible refine (sameV V1.out.st V2.out.st).mono ?_); rintro e w4 ⟨rfl, hb⟩)
  replace V1 := Lib.hid (V1.out.below hb (Nat.le_refl _))
  replace V2 := Lib.hid (V2.out.below hb (Nat.le_refl _))
  replace B := Lib.hid (B.out.trans (hb.mono B.out.size))
  have z4 := hb.size
  clear V10 V11 V1f V20 V21 V2f hb
  cases ok
  · obtain ⟨V10, V11, V1f⟩ := two_cells V1.out.1
    obtain ⟨V20, V21, V2f⟩ := two_cells V2.out.1
    go_wp2_with fail
    ((with_reducible refine (sameV V1.out.st V2.out.st).mono ?_); rintro e w5 ⟨rfl, hb⟩)
    replace V1 := Lib.hid (V1.out.below hb (Nat.le_refl _))
    replace V2 := Lib.hid (V2.out.below hb (Nat.le_refl _))
    replace B := Lib.hid (B.out.trans (hb.mono B.out.size))
    have z5 := hb.size
    clear V10 V11 V1f V20 V21 V2f hb
    go_wp2
    go_ret
    exact ⟨rfl, B.out⟩
  have HP := Lib.hid (new_of HA.out.2 HA.out.1)
  obtain ⟨m, rfl⟩ := Int.eq_ofNat_of_zero_le HP.out.1
  have hm := HP.out.2.1
  go_wp2
  go_loopw [8] (fun i wr => ∃ j : Nat, j ≤ (m + 1) ∧ i = .int .i64 (((j : Nat) : Int)) ∧ Hid (Vr w.heap.size wr w2.heap.size d1 AV1 kV1 ∧ Below w.heap.size w wr)) (fun i _ => ((m + 1) + 1 : Nat) - (intOf i - ((((0 : Nat) : Int) : Int))).toNat)
  case atStart => exact ⟨0, Nat.zero_le _, by simp, V1.out, B.out⟩
  case round =>
    obtain ⟨j, hj, rfl, hT⟩ := hrel
    clear V1 B
    have V1 := Lib.hid hT.out.1
    have B := Lib.hid hT.out.2
    clear hT
    have zB := B.out.size
    by_cases hlj : j < (m + 1)
    · have hle : (j : Int) ≤ (m : Int) := by omega
      have HK := Lib.hid (HP.out.2.2.2 (j : Int))
      obtain ⟨V10, V11, V1f⟩ := two_cells V1.out.1
      go_wp2_with fail
      ((with_reducible refine (keysI HK.out V1.out.st).mono ?_); rintro e w5 ⟨AI1, kI1, rfl, ho, hb⟩)
      replace V1 := Lib.hid (V1.out.below hb (Nat.le_refl _))
      replace B := Lib.hid (B.out.trans (hb.mono B.out.size))
      have z5 := hb.size
      have I1 := Lib.hid ho.ints
      clear ho
      clear V10 V11 V1f hb
      go_wp2
      go_roundw
      case rel => exact ⟨j + 1, by omega, by first | go_num | (congr 1; push_cast; omega), V1.out, B.out⟩
      case measure => simp [intOf]; omega
    obtain rfl : j = (m + 1) := by omega
    clear hlj
    have hlt : ¬ (((m + 1 : Nat) : Int) ≤ (m : Int)) := by omega
    obtain ⟨V10, V11, V1f⟩ := two_cells V1.out.1
    go_wp2_with fail
    ((with_reducible refine (Im8.CacheValid _ _ _ _ _ _ _ V1.out.st).mono ?_); rintro e w5 ⟨rfl, hb⟩)
    rw [HP.out.2.2.1.1]
    replace V1 := Lib.hid (V1.out.below hb (Nat.le_refl _))
    replace B := Lib.hid (B.out.trans (hb.mono B.out.size))
    have z5 := hb.size
    clear V10 V11 V1f hb
    obtain ⟨V10, V11, V1f⟩ := two_cells V1.out.1
    rw [HP.out.2.2.1.2] at V10
    go_wp2
    go_ret
    exact ⟨rfl, B.out⟩

set_option maxRecDepth 20000 in
set_option maxHeartbeats 1000000 in
theorem fnCacheAdd (A : Option Addr) (n c : Nat) (w : World) (h : CodeIs w A n c) :
    Calls Try.prog 4 #[.slice A n c] w (TruePost w) := by
  have HC := Lib.hid h
  clear h
  by_cases hn : 1048576 < n
  · go_enter Try.func4, Try.ntmps4
    go_wp2
    go_ret
    exact ⟨rfl, Below.refl _ _⟩
  have B : Hid (Below w.heap.size w w) := Below.refl _ _
  go_enter Try.func4, Try.ntmps4
  go_wp2_with fail
  ((with_reducible refine (DrawCacheAdd _ _ _ _ HC.out).mono ?_); rintro e w1 ⟨A0, k0, c, ep, key, rfl, hdc, hst, hb⟩)
  replace B := Lib.hid (B.out.trans (hb.mono B.out.size))
  have z1 := hb.size
  have R0 := Lib.hid hst
  have DC := Lib.hid hdc
  clear hst hdc HC
  clear hb
  have hal : Below w1.heap.size w1 (w1.alloc (.cells #[.int .i64 c.ep, .slice A0 c.sl.length k0] 26)) := (Below.refl _ _).alloc (Nat.le_refl _) _
  have V0 := Lib.hid (vr_new (w0 := w.heap.size) R0.out (by omega))
  replace B := Lib.hid (B.out.trans (hal.mono B.out.size))
  have zzV0 := hal.size
  clear hal R0
  obtain ⟨d1, m1, HA⟩ : ∃ d1 m1, Hid (addF c ep key = d1 ∧ addN c ep key = m1) := ⟨_, _, rfl, rfl⟩
  obtain ⟨V00, V01, V0f⟩ := two_cells V0.out.1
  go_wp2_with fail
  ((with_reducible refine (addI HA.out V0.out.st).mono ?_); rintro e w2 ⟨AV1, kV1, GV1, rfl, ho, hw, hb⟩)
  replace V0 := Lib.hid (V0.out.below hb (Nat.le_refl _))
  replace B := Lib.hid (B.out.trans (hb.mono B.out.size))
  have z2 := hb.size
  have RV1 := Lib.hid (ho.sts hw)
  clear ho hw
  clear V00 V01 V0f hb
  have hal : Below w2.heap.size w2 (w2.alloc (.cells #[.int .i64 d1.ep, .slice AV1 d1.sl.length kV1] 26)) := (Below.refl _ _).alloc (Nat.le_refl _) _
  have V1 := Lib.hid (vr_new (w0 := w.heap.size) RV1.out (by omega))
  replace V0 := Lib.hid (V0.out.below hal (Nat.le_refl _))
  replace B := Lib.hid (B.out.trans (hal.mono B.out.size))
  have zzV1 := hal.size
  clear hal RV1
  obtain ⟨V00, V01, V0f⟩ := two_cells V0.out.1
  go_wp2_with fail
  ((with_reducible refine (addS HA.out V0.out.st).mono ?_); rintro e w3 ⟨AV2, kV2, GV2, rfl, ho, hw, hb⟩)
  replace V0 := Lib.hid (V0.out.below hb (Nat.le_refl _))
  replace V1 := Lib.hid (V1.out.below hb (Nat.le_refl _))
  replace B := Lib.hid (B.out.trans (hb.mono B.out.size))
  have z3 := hb.size
  have RV2 := Lib.hid (ho.sts hw)
  clear ho hw
  clear V00 V01 V0f hb
  have hal : Below w3.heap.size w3 (w3.alloc (.cells #[.int .i64 d1.ep, .slice AV2 d1.sl.length kV2] 26)) := (Below.refl _ _).alloc (Nat.le_refl _) _
  have V2 := Lib.hid (vr_new (w0 := w.heap.size) RV2.out (by omega))
  replace V0 := Lib.hid (V0.out.below hal (Nat.le_refl _))
  replace V1 := Lib.hid (V1.out.below hal (Nat.le_refl _))
  replace B := Lib.hid (B.out.trans (hal.mono B.out.size))
  have zzV2 := hal.size
  clear hal RV2
  have e0 : (m1 != m1) = false := by simp
  have e1 : (m1 == m1) = true := by simp
  obtain ⟨V10, V11, V1f⟩ := two_cells V1.out.1
  obtain ⟨V20, V21, V2f⟩ := two_cells V2.out.1
  go_wp2_with fail
  ((with_reducible refine (sameV V1.out.st V2.out.st).mono ?_); rintro e w4 ⟨rfl, hb⟩)
  replace V0 := Lib.hid (V0.out.below hb (Nat.le_refl _))
  replace V1 := Lib.hid (V1.out.below hb (Nat.le_refl _))
  replace V2 := Lib.hid (V2.out.below hb (Nat.le_refl _))
  replace B := Lib.hid (B.out.trans (hb.mono B.out.size))
  have z4 := hb.size
  clear V10 V11 V1f V20 V21 V2f hb
  by_cases hz : ¬ m1 = 0
  · have e2 : (m1 != 0) = true := by simpa using hz
    obtain ⟨V10, V11, V1f⟩ := two_cells V1.out.1
    obtain ⟨V20, V21, V2f⟩ := two_cells V2.out.1
    go_wp2_with fail
    ((with_reducible refine (sameV V1.out.st V2.out.st).mono ?_); rintro e w5 ⟨rfl, hb⟩)
    replace V0 := Lib.hid (V0.out.below hb (Nat.le_refl _))
    replace V1 := Lib.hid (V1.out.below hb (Nat.le_refl _))
    replace V2 := Lib.hid (V2.out.below hb (Nat.le_refl _))
    replace B := Lib.hid (B.out.trans (hb.mono B.out.size))
    have z5 := hb.size
    clear V10 V11 V1f V20 V21 V2f hb
    go_wp2
    go_ret
    exact ⟨rfl, B.out⟩
  replace hz : m1 = 0 := by omega
  subst hz
  have HEP := Lib.hid (done_ep HA.out.2)
  obtain ⟨hp0, hp1⟩ := HEP.out
  have HOK := Lib.hid (done_ok HA.out.2 HA.out.1)
  have ew : IntKind.i64.wrap (c.ep - 3) = c.ep - 3 := IntWalk.i64_in _ (by omega)
  obtain ⟨V00, V01, V0f⟩ := two_cells V0.out.1
  go_wp2
  clear V00 V01 V0f
  go_loopw [10] (fun i wr => ∃ j : Nat, j ≤ 4 ∧ i = .int .i64 (c.ep - 3 + (j : Nat)) ∧ Hid (Vr w.heap.size wr w1.heap.size c A0 k0 ∧ Vr w.heap.size wr w2.heap.size d1 AV1 kV1 ∧ Below w.heap.size w wr)) (fun i _ => (4 + 1 : Nat) - (intOf i - (c.ep - 3 + ((0 : Nat) : Int))).toNat)
  case atStart => exact ⟨0, Nat.zero_le _, by simp, V0.out, V1.out, B.out⟩
  case round =>
    obtain ⟨j, hj, rfl, hT⟩ := hrel
    clear V0 V1 B
    have V0 := Lib.hid hT.out.1
    have V1 := Lib.hid hT.out.2.1
    have B := Lib.hid hT.out.2.2
    clear hT
    have zB := B.out.size
    by_cases hlj : j < 4
    · have hle : c.ep - 3 + (j : Int) ≤ c.ep := by omega
      have ej : IntKind.i64.wrap (c.ep - 3 + (j : Int) + 1) = c.ep - 3 + (j : Int) + 1 := IntWalk.i64_in _ (by omega)
      obtain ⟨ka, kb, HK, HL⟩ : ∃ ka kb, Hid (keysF c (c.ep - 3 + (j : Int)) = ka ∧ keysF d1 (c.ep - 3 + (j : Int)) = kb) ∧ Hid (ka.length ≤ 6) := ⟨_, _, ⟨rfl, rfl⟩, (slotOk_iff.1 (keysF_ok _)).1⟩
      have hl6 := HL.out
      have HX := Lib.hid (add_keys HA.out.2 HA.out.1 HK.out.1 HK.out.2)
      obtain ⟨V00, V01, V0f⟩ := two_cells V0.out.1
      go_wp2_with fail
      ((with_reducible refine (keysI HK.out.1 V0.out.st).mono ?_); rintro e w5 ⟨AI1, kI1, rfl, ho, hb⟩)
      replace V0 := Lib.hid (V0.out.below hb (Nat.le_refl _))
      replace V1 := Lib.hid (V1.out.below hb (Nat.le_refl _))
      replace B := Lib.hid (B.out.trans (hb.mono B.out.size))
      have z5 := hb.size
      have I1 := Lib.hid ho.ints
      clear ho
      clear V00 V01 V0f hb
      obtain ⟨V10, V11, V1f⟩ := two_cells V1.out.1
      go_wp2_with fail
      ((with_reducible refine (keysI HK.out.2 V1.out.st).mono ?_); rintro e w6 ⟨AI2, kI2, rfl, ho, hb⟩)
      replace V0 := Lib.hid (V0.out.below hb (Nat.le_refl _))
      replace V1 := Lib.hid (V1.out.below hb (Nat.le_refl _))
      replace I1 := Lib.hid (I1.out.below hb (Nat.le_refl _))
      replace B := Lib.hid (B.out.trans (hb.mono B.out.size))
      have z6 := hb.size
      have I2 := Lib.hid ho.ints
      clear ho
      clear V10 V11 V1f hb
      by_cases hee : c.ep - 3 + (j : Int) = ep
      · obtain ⟨x1, x2, x3⟩ := HX.out.1 hee
        have hee2 : (c.ep - 3 + (j : Int) == ep) = true := by simpa using hee
        have HXX := Lib.hid (And.intro x2 x3)
        have xl : ((kb.length : Int) != (ka.length : Int) + 1) = false := by simp; omega
        have xw : IntKind.i64.wrap ((ka.length : Int) + 1) = (ka.length : Int) + 1 := IntWalk.i64_in _ (by omega)
        clear x1 x2 x3 hee
        go_wp2_with fail
        ((with_reducible refine (hasInt _ _ _ _ _ kb key _ I2.out).mono ?_); rintro e w' ⟨rfl, rfl⟩)
        rw [HXX.out.1]
        go_wp2_with fail
        ((with_reducible refine (hasInt _ _ _ _ _ ka key _ I1.out).mono ?_); rintro e w' ⟨rfl, rfl⟩)
        cases hasK ka key
        · go_wp2
          go_roundw
          case rel => exact ⟨j + 1, by omega, by first | go_num | (congr 1; push_cast; omega), V0.out, V1.out, B.out⟩
          case measure => simp [intOf]; omega
        · go_wp2
          go_roundw
          case rel => exact ⟨j + 1, by omega, by first | go_num | (congr 1; push_cast; omega), V0.out, V1.out, B.out⟩
          case measure => simp [intOf]; omega
      obtain rfl := HX.out.2 hee
      have hee2 : (c.ep - 3 + (j : Int) == ep) = false := by simpa using hee
      have xl : ((ka.length : Int) != (ka.length : Int)) = false := by simp
      have xw : IntKind.i64.wrap ((ka.length : Int) + 0) = (ka.length : Int) := IntWalk.i64_in _ (by omega)
      have xw2 : IntKind.i64.wrap (ka.length : Int) = (ka.length : Int) := IntWalk.i64_in _ (by omega)
      clear hee
      go_wp2_with fail
      ((with_reducible refine (hasInt _ _ _ _ _ ka key _ I2.out).mono ?_); rintro e w' ⟨rfl, rfl⟩)
      go_wp2_with fail
      ((with_reducible refine (hasInt _ _ _ _ _ ka key _ I1.out).mono ?_); rintro e w' ⟨rfl, rfl⟩)
      have hq : (hasK ka key != hasK ka key) = false := by simp
      cases hb0 : hasK ka key
      · go_wp2
        go_roundw
        case rel => exact ⟨j + 1, by omega, by first | go_num | (congr 1; push_cast; omega), V0.out, V1.out, B.out⟩
        case measure => simp [intOf]; omega
      go_wp2
      go_roundw
      case rel => exact ⟨j + 1, by omega, by first | go_num | (congr 1; push_cast; omega), V0.out, V1.out, B.out⟩
      case measure => simp [intOf]; omega
    obtain rfl : j = 4 := by omega
    clear hlj
    have hlt : ¬ (c.ep - 3 + ((4 : Nat) : Int) ≤ c.ep) := by omega
    obtain ⟨V00, V01, V0f⟩ := two_cells V0.out.1
    obtain ⟨V10, V11, V1f⟩ := two_cells V1.out.1
    go_wp2_with fail
    ((with_reducible refine (Im8.CacheValid _ _ _ _ _ _ _ V1.out.st).mono ?_); rintro e w5 ⟨rfl, hb⟩)
    rw [HOK.out]
    replace V0 := Lib.hid (V0.out.below hb (Nat.le_refl _))
    replace V1 := Lib.hid (V1.out.below hb (Nat.le_refl _))
    replace B := Lib.hid (B.out.trans (hb.mono B.out.size))
    have z5 := hb.size
    clear V00 V01 V0f V10 V11 V1f hb
    go_wp2
    go_ret
    exact ⟨rfl, B.out⟩

set_option maxRecDepth 20000 in
set_option maxHeartbeats 1000000 in
theorem fnCacheTwice (A : Option Addr) (n c : Nat) (w : World) (h : CodeIs w A n c) :
    Calls Try.prog 5 #[.slice A n c] w (TruePost w) := by
  have HC := Lib.hid h
  clear h
  by_cases hn : 1048576 < n
  · go_enter Try.func5, Try.ntmps5
    go_wp2
    go_ret
    exact ⟨rfl, Below.refl _ _⟩
  have B : Hid (Below w.heap.size w w) := Below.refl _ _
  go_enter Try.func5, Try.ntmps5
  go_wp2_with fail
  ((with_reducible refine (DrawCacheAdd _ _ _ _ HC.out).mono ?_); rintro e w1 ⟨A0, k0, c, ep, key, rfl, hdc, hst, hb⟩)
  replace B := Lib.hid (B.out.trans (hb.mono B.out.size))
  have z1 := hb.size
  have R0 := Lib.hid hst
  have DC := Lib.hid hdc
  clear hst hdc HC
  clear hb
  have hal : Below w1.heap.size w1 (w1.alloc (.cells #[.int .i64 c.ep, .slice A0 c.sl.length k0] 26)) := (Below.refl _ _).alloc (Nat.le_refl _) _
  have V0 := Lib.hid (vr_new (w0 := w.heap.size) R0.out (by omega))
  replace B := Lib.hid (B.out.trans (hal.mono B.out.size))
  have zzV0 := hal.size
  clear hal R0
  obtain ⟨d1, m1, HA⟩ : ∃ d1 m1, Hid (addF c ep key = d1 ∧ addN c ep key = m1) := ⟨_, _, rfl, rfl⟩
  obtain ⟨V00, V01, V0f⟩ := two_cells V0.out.1
  go_wp2_with fail
  ((with_reducible refine (addI HA.out V0.out.st).mono ?_); rintro e w2 ⟨AV1, kV1, GV1, rfl, ho, hw, hb⟩)
  replace V0 := Lib.hid (V0.out.below hb (Nat.le_refl _))
  replace B := Lib.hid (B.out.trans (hb.mono B.out.size))
  have z2 := hb.size
  have RV1 := Lib.hid (ho.sts hw)
  clear ho hw
  clear V00 V01 V0f hb
  have hal : Below w2.heap.size w2 (w2.alloc (.cells #[.int .i64 d1.ep, .slice AV1 d1.sl.length kV1] 26)) := (Below.refl _ _).alloc (Nat.le_refl _) _
  have V1 := Lib.hid (vr_new (w0 := w.heap.size) RV1.out (by omega))
  replace V0 := Lib.hid (V0.out.below hal (Nat.le_refl _))
  replace B := Lib.hid (B.out.trans (hal.mono B.out.size))
  have zzV1 := hal.size
  clear hal RV1
  obtain ⟨V00, V01, V0f⟩ := two_cells V0.out.1
  go_wp2_with fail
  ((with_reducible refine (addS HA.out V0.out.st).mono ?_); rintro e w3 ⟨AV2, kV2, GV2, rfl, ho, hw, hb⟩)
  replace V0 := Lib.hid (V0.out.below hb (Nat.le_refl _))
  replace V1 := Lib.hid (V1.out.below hb (Nat.le_refl _))
  replace B := Lib.hid (B.out.trans (hb.mono B.out.size))
  have z3 := hb.size
  have RV2 := Lib.hid (ho.sts hw)
  clear ho hw
  clear V00 V01 V0f hb
  have hal : Below w3.heap.size w3 (w3.alloc (.cells #[.int .i64 d1.ep, .slice AV2 d1.sl.length kV2] 26)) := (Below.refl _ _).alloc (Nat.le_refl _) _
  have V2 := Lib.hid (vr_new (w0 := w.heap.size) RV2.out (by omega))
  replace V0 := Lib.hid (V0.out.below hal (Nat.le_refl _))
  replace V1 := Lib.hid (V1.out.below hal (Nat.le_refl _))
  replace B := Lib.hid (B.out.trans (hal.mono B.out.size))
  have zzV2 := hal.size
  clear hal RV2
  have e0 : (m1 != m1) = false := by simp
  have e1 : (m1 == m1) = true := by simp
  obtain ⟨V10, V11, V1f⟩ := two_cells V1.out.1
  obtain ⟨V20, V21, V2f⟩ := two_cells V2.out.1
  go_wp2_with fail
  ((with_reducible refine (sameV V1.out.st V2.out.st).mono ?_); rintro e w4 ⟨rfl, hb⟩)
  replace V0 := Lib.hid (V0.out.below hb (Nat.le_refl _))
  replace V1 := Lib.hid (V1.out.below hb (Nat.le_refl _))
  replace V2 := Lib.hid (V2.out.below hb (Nat.le_refl _))
  replace B := Lib.hid (B.out.trans (hb.mono B.out.size))
  have z4 := hb.size
  clear V10 V11 V1f V20 V21 V2f hb
  by_cases hz : ¬ m1 = 0
  · have e2 : (m1 != 0) = true := by simpa using hz
    obtain ⟨V10, V11, V1f⟩ := two_cells V1.out.1
    obtain ⟨V20, V21, V2f⟩ := two_cells V2.out.1
    go_wp2_with fail
    ((with_reducible refine (sameV V1.out.st V2.out.st).mono ?_); rintro e w5 ⟨rfl, hb⟩)
    replace V0 := Lib.hid (V0.out.below hb (Nat.le_refl _))
    replace V1 := Lib.hid (V1.out.below hb (Nat.le_refl _))
    replace V2 := Lib.hid (V2.out.below hb (Nat.le_refl _))
    replace B := Lib.hid (B.out.trans (hb.mono B.out.size))
    have z5 := hb.size
    clear V10 V11 V1f V20 V21 V2f hb
    go_wp2
    go_ret
    exact ⟨rfl, B.out⟩
  replace hz : m1 = 0 := by omega
  subst hz
  have HK := Lib.hid (twice_at HA.out.2 HA.out.1)
  obtain ⟨V10, V11, V1f⟩ := two_cells V1.out.1
  go_wp2_with fail
  ((with_reducible refine (addI HK.out V1.out.st).mono ?_); rintro e w5 ⟨AV3, kV3, GV3, rfl, ho, hw, hb⟩)
  replace V0 := Lib.hid (V0.out.below hb (Nat.le_refl _))
  replace V1 := Lib.hid (V1.out.below hb (Nat.le_refl _))
  replace V2 := Lib.hid (V2.out.below hb (Nat.le_refl _))
  replace B := Lib.hid (B.out.trans (hb.mono B.out.size))
  have z5 := hb.size
  have RV3 := Lib.hid (ho.sts hw)
  clear ho hw
  clear V10 V11 V1f hb
  have hal : Below w5.heap.size w5 (w5.alloc (.cells #[.int .i64 d1.ep, .slice AV3 d1.sl.length kV3] 26)) := (Below.refl _ _).alloc (Nat.le_refl _) _
  have V3 := Lib.hid (vr_new (w0 := w.heap.size) RV3.out (by omega))
  replace V0 := Lib.hid (V0.out.below hal (Nat.le_refl _))
  replace V1 := Lib.hid (V1.out.below hal (Nat.le_refl _))
  replace V2 := Lib.hid (V2.out.below hal (Nat.le_refl _))
  replace B := Lib.hid (B.out.trans (hal.mono B.out.size))
  have zzV3 := hal.size
  clear hal RV3
  obtain ⟨V30, V31, V3f⟩ := two_cells V3.out.1
  obtain ⟨V10, V11, V1f⟩ := two_cells V1.out.1
  go_wp2_with fail
  ((with_reducible refine (sameV V3.out.st V1.out.st).mono ?_); rintro e w6 ⟨rfl, hb⟩)
  replace V0 := Lib.hid (V0.out.below hb (Nat.le_refl _))
  replace V1 := Lib.hid (V1.out.below hb (Nat.le_refl _))
  replace V2 := Lib.hid (V2.out.below hb (Nat.le_refl _))
  replace V3 := Lib.hid (V3.out.below hb (Nat.le_refl _))
  replace B := Lib.hid (B.out.trans (hb.mono B.out.size))
  have z6 := hb.size
  clear V30 V31 V3f V10 V11 V1f hb
  go_wp2
  go_ret
  exact ⟨rfl, B.out⟩

set_option maxRecDepth 20000 in
set_option maxHeartbeats 1000000 in
theorem fnCacheCodes (A : Option Addr) (n c : Nat) (w : World) (h : CodeIs w A n c) :
    Calls Try.prog 6 #[.slice A n c] w (TruePost w) := by
  have HC := Lib.hid h
  clear h
  by_cases hn : 1048576 < n
  · go_enter Try.func6, Try.ntmps6
    go_wp2
    go_ret
    exact ⟨rfl, Below.refl _ _⟩
  have B : Hid (Below w.heap.size w w) := Below.refl _ _
  go_enter Try.func6, Try.ntmps6
  go_wp2_with fail
  ((with_reducible refine (DrawCacheAdd _ _ _ _ HC.out).mono ?_); rintro e w1 ⟨A0, k0, c, ep, key, rfl, hdc, hst, hb⟩)
  replace B := Lib.hid (B.out.trans (hb.mono B.out.size))
  have z1 := hb.size
  have R0 := Lib.hid hst
  have DC := Lib.hid hdc
  clear hst hdc HC
  clear hb
  have hal : Below w1.heap.size w1 (w1.alloc (.cells #[.int .i64 c.ep, .slice A0 c.sl.length k0] 26)) := (Below.refl _ _).alloc (Nat.le_refl _) _
  have V0 := Lib.hid (vr_new (w0 := w.heap.size) R0.out (by omega))
  replace B := Lib.hid (B.out.trans (hal.mono B.out.size))
  have zzV0 := hal.size
  clear hal R0
  obtain ⟨d1, m1, HA⟩ : ∃ d1 m1, Hid (addF c ep key = d1 ∧ addN c ep key = m1) := ⟨_, _, rfl, rfl⟩
  obtain ⟨V00, V01, V0f⟩ := two_cells V0.out.1
  go_wp2_with fail
  ((with_reducible refine (addI HA.out V0.out.st).mono ?_); rintro e w2 ⟨AV1, kV1, GV1, rfl, ho, hw, hb⟩)
  replace V0 := Lib.hid (V0.out.below hb (Nat.le_refl _))
  replace B := Lib.hid (B.out.trans (hb.mono B.out.size))
  have z2 := hb.size
  have RV1 := Lib.hid (ho.sts hw)
  clear ho hw
  clear V00 V01 V0f hb
  have hal : Below w2.heap.size w2 (w2.alloc (.cells #[.int .i64 d1.ep, .slice AV1 d1.sl.length kV1] 26)) := (Below.refl _ _).alloc (Nat.le_refl _) _
  have V1 := Lib.hid (vr_new (w0 := w.heap.size) RV1.out (by omega))
  replace V0 := Lib.hid (V0.out.below hal (Nat.le_refl _))
  replace B := Lib.hid (B.out.trans (hal.mono B.out.size))
  have zzV1 := hal.size
  clear hal RV1
  obtain ⟨V00, V01, V0f⟩ := two_cells V0.out.1
  go_wp2_with fail
  ((with_reducible refine (addS HA.out V0.out.st).mono ?_); rintro e w3 ⟨AV2, kV2, GV2, rfl, ho, hw, hb⟩)
  replace V0 := Lib.hid (V0.out.below hb (Nat.le_refl _))
  replace V1 := Lib.hid (V1.out.below hb (Nat.le_refl _))
  replace B := Lib.hid (B.out.trans (hb.mono B.out.size))
  have z3 := hb.size
  have RV2 := Lib.hid (ho.sts hw)
  clear ho hw
  clear V00 V01 V0f hb
  have hal : Below w3.heap.size w3 (w3.alloc (.cells #[.int .i64 d1.ep, .slice AV2 d1.sl.length kV2] 26)) := (Below.refl _ _).alloc (Nat.le_refl _) _
  have V2 := Lib.hid (vr_new (w0 := w.heap.size) RV2.out (by omega))
  replace V0 := Lib.hid (V0.out.below hal (Nat.le_refl _))
  replace V1 := Lib.hid (V1.out.below hal (Nat.le_refl _))
  replace B := Lib.hid (B.out.trans (hal.mono B.out.size))
  have zzV2 := hal.size
  clear hal RV2
  have e0 : (m1 != m1) = false := by simp
  have e1 : (m1 == m1) = true := by simp
  obtain ⟨V10, V11, V1f⟩ := two_cells V1.out.1
  obtain ⟨V20, V21, V2f⟩ := two_cells V2.out.1
  go_wp2_with fail
  ((with_reducible refine (sameV V1.out.st V2.out.st).mono ?_); rintro e w4 ⟨rfl, hb⟩)
  replace V0 := Lib.hid (V0.out.below hb (Nat.le_refl _))
  replace V1 := Lib.hid (V1.out.below hb (Nat.le_refl _))
  replace V2 := Lib.hid (V2.out.below hb (Nat.le_refl _))
  replace B := Lib.hid (B.out.trans (hb.mono B.out.size))
  have z4 := hb.size
  clear V10 V11 V1f V20 V21 V2f hb
  by_cases hz : m1 = 4
  · have e2 : (m1 == 4) = true := by simpa using hz
    obtain ⟨V10, V11, V1f⟩ := two_cells V1.out.1
    obtain ⟨V20, V21, V2f⟩ := two_cells V2.out.1
    go_wp2_with fail
    ((with_reducible refine (sameV V1.out.st V2.out.st).mono ?_); rintro e w5 ⟨rfl, hb⟩)
    replace V0 := Lib.hid (V0.out.below hb (Nat.le_refl _))
    replace V1 := Lib.hid (V1.out.below hb (Nat.le_refl _))
    replace V2 := Lib.hid (V2.out.below hb (Nat.le_refl _))
    replace B := Lib.hid (B.out.trans (hb.mono B.out.size))
    have z5 := hb.size
    clear V10 V11 V1f V20 V21 V2f hb
    go_wp2
    go_ret
    exact ⟨rfl, B.out⟩
  have hz4 : (m1 == 4) = false := by simpa using hz
  have HOK := Lib.hid (add_ok HA.out.2 hz)
  have HEP := Lib.hid (chOk_iff.1 HOK.out.1).2.1
  obtain ⟨hp0, hp1⟩ := HEP.out
  have ew : IntKind.i64.wrap (c.ep - 3) = c.ep - 3 := IntWalk.i64_in _ (by omega)
  obtain ⟨ks, HKS⟩ : ∃ ks, Hid (keysF c ep = ks) := ⟨_, rfl⟩
  obtain ⟨V00, V01, V0f⟩ := two_cells V0.out.1
  go_wp2_with fail
  ((with_reducible refine (keysI HKS.out V0.out.st).mono ?_); rintro e w5 ⟨AI1, kI1, rfl, ho, hb⟩)
  replace V0 := Lib.hid (V0.out.below hb (Nat.le_refl _))
  replace V1 := Lib.hid (V1.out.below hb (Nat.le_refl _))
  replace V2 := Lib.hid (V2.out.below hb (Nat.le_refl _))
  replace B := Lib.hid (B.out.trans (hb.mono B.out.size))
  have z5 := hb.size
  have I1 := Lib.hid ho.ints
  clear ho
  clear V00 V01 V0f hb
  by_cases hin : 0 ≤ ep ∧ ep ≤ c.ep ∧ c.ep - ep ≤ 2
  · obtain ⟨i0, i1, i2⟩ := hin
    have j0 : decide (ep < 0) = false := by simp; omega
    have j1 : decide (c.ep < ep) = false := by simp; omega
    have j2 : decide (ep ≤ c.ep - 3) = false := by simp; omega
    have HC3 := Lib.hid (codes_in HOK.out.1 HOK.out.2 ⟨i0, i1, i2⟩ HA.out.2 HA.out.1 HKS.out)
    obtain ⟨V00, V01, V0f⟩ := two_cells V0.out.1
    go_wp2_with fail
    ((with_reducible refine (hasInt _ _ _ _ _ ks key _ I1.out).mono ?_); rintro e w' ⟨rfl, rfl⟩)
    clear V00 V01 V0f
    cases hh : hasK ks key
    · rw [hh] at HC3
      by_cases h6 : ks.length = 6
      · obtain ⟨rfl, rfl⟩ := HC3.out.2.1 ⟨rfl, h6⟩
        have h6' : ((ks.length : Int) == 6) = true := by simp; omega
        obtain ⟨V10, V11, V1f⟩ := two_cells V1.out.1
        obtain ⟨V00, V01, V0f⟩ := two_cells V0.out.1
        go_wp2_with fail
        ((with_reducible refine (sameV V1.out.st V0.out.st).mono ?_); rintro e w7 ⟨rfl, hb⟩)
        replace V0 := Lib.hid (V0.out.below hb (Nat.le_refl _))
        replace V1 := Lib.hid (V1.out.below hb (Nat.le_refl _))
        replace V2 := Lib.hid (V2.out.below hb (Nat.le_refl _))
        replace I1 := Lib.hid (I1.out.below hb (Nat.le_refl _))
        replace B := Lib.hid (B.out.trans (hb.mono B.out.size))
        have z7 := hb.size
        clear V10 V11 V1f V00 V01 V0f hb
        go_wp2
        go_ret
        exact ⟨rfl, B.out⟩
      obtain rfl := HC3.out.2.2 rfl h6
      have h6' : ((ks.length : Int) == 6) = false := by simp; omega
      go_wp2
      go_ret
      exact ⟨rfl, B.out⟩
    rw [hh] at HC3
    obtain ⟨rfl, rfl⟩ := HC3.out.1 rfl
    obtain ⟨V10, V11, V1f⟩ := two_cells V1.out.1
    obtain ⟨V00, V01, V0f⟩ := two_cells V0.out.1
    go_wp2_with fail
    ((with_reducible refine (sameV V1.out.st V0.out.st).mono ?_); rintro e w7 ⟨rfl, hb⟩)
    replace V0 := Lib.hid (V0.out.below hb (Nat.le_refl _))
    replace V1 := Lib.hid (V1.out.below hb (Nat.le_refl _))
    replace V2 := Lib.hid (V2.out.below hb (Nat.le_refl _))
    replace I1 := Lib.hid (I1.out.below hb (Nat.le_refl _))
    replace B := Lib.hid (B.out.trans (hb.mono B.out.size))
    have z7 := hb.size
    clear V10 V11 V1f V00 V01 V0f hb
    go_wp2
    go_ret
    exact ⟨rfl, B.out⟩
  obtain ⟨rfl, rfl⟩ := codes_out HOK.out.1 HOK.out.2 hin HA.out.2 HA.out.1
  by_cases j0 : ep < 0
  · obtain ⟨V10, V11, V1f⟩ := two_cells V1.out.1
    obtain ⟨V00, V01, V0f⟩ := two_cells V0.out.1
    go_wp2_with fail
    ((with_reducible refine (sameV V1.out.st V0.out.st).mono ?_); rintro e w6 ⟨rfl, hb⟩)
    replace V0 := Lib.hid (V0.out.below hb (Nat.le_refl _))
    replace V1 := Lib.hid (V1.out.below hb (Nat.le_refl _))
    replace V2 := Lib.hid (V2.out.below hb (Nat.le_refl _))
    replace I1 := Lib.hid (I1.out.below hb (Nat.le_refl _))
    replace B := Lib.hid (B.out.trans (hb.mono B.out.size))
    have z6 := hb.size
    clear V10 V11 V1f V00 V01 V0f hb
    go_wp2
    go_ret
    exact ⟨rfl, B.out⟩
  have j0' : decide (ep < 0) = false := by simpa using j0
  by_cases j1 : c.ep < ep
  · obtain ⟨V10, V11, V1f⟩ := two_cells V1.out.1
    obtain ⟨V00, V01, V0f⟩ := two_cells V0.out.1
    go_wp2_with fail
    ((with_reducible refine (sameV V1.out.st V0.out.st).mono ?_); rintro e w6 ⟨rfl, hb⟩)
    replace V0 := Lib.hid (V0.out.below hb (Nat.le_refl _))
    replace V1 := Lib.hid (V1.out.below hb (Nat.le_refl _))
    replace V2 := Lib.hid (V2.out.below hb (Nat.le_refl _))
    replace I1 := Lib.hid (I1.out.below hb (Nat.le_refl _))
    replace B := Lib.hid (B.out.trans (hb.mono B.out.size))
    have z6 := hb.size
    clear V10 V11 V1f V00 V01 V0f hb
    go_wp2
    go_ret
    exact ⟨rfl, B.out⟩
  have j1' : decide (c.ep < ep) = false := by simpa using j1
  have j2 : ep ≤ c.ep - 3 := by omega
  obtain ⟨V10, V11, V1f⟩ := two_cells V1.out.1
  obtain ⟨V00, V01, V0f⟩ := two_cells V0.out.1
  go_wp2_with fail
  ((with_reducible refine (sameV V1.out.st V0.out.st).mono ?_); rintro e w6 ⟨rfl, hb⟩)
  replace V0 := Lib.hid (V0.out.below hb (Nat.le_refl _))
  replace V1 := Lib.hid (V1.out.below hb (Nat.le_refl _))
  replace V2 := Lib.hid (V2.out.below hb (Nat.le_refl _))
  replace I1 := Lib.hid (I1.out.below hb (Nat.le_refl _))
  replace B := Lib.hid (B.out.trans (hb.mono B.out.size))
  have z6 := hb.size
  clear V10 V11 V1f V00 V01 V0f hb
  go_wp2
  go_ret
  exact ⟨rfl, B.out⟩

set_option maxRecDepth 20000 in
set_option maxHeartbeats 1000000 in
theorem fnCacheOrder (A : Option Addr) (n c : Nat) (A1 : Option Addr) (n1 c1 : Nat) (w : World) (h : CodeIs w A n c) (h1 : CodeIs w A1 n1 c1) :
    Calls Try.prog 7 #[.slice A n c, .slice A1 n1 c1] w (TruePost w) := by
  have HC := Lib.hid h
  have HC2 := Lib.hid (code_any h1)
  clear h h1
  by_cases hn : 1048576 < n
  · go_enter Try.func7, Try.ntmps7
    go_wp2
    go_ret
    exact ⟨rfl, Below.refl _ _⟩
  by_cases hn1 : 1048576 < n1
  · go_enter Try.func7, Try.ntmps7
    go_wp2
    go_ret
    exact ⟨rfl, Below.refl _ _⟩
  have B : Hid (Below w.heap.size w w) := Below.refl _ _
  go_enter Try.func7, Try.ntmps7
  go_wp2_with fail
  ((with_reducible refine (DrawCacheAdd _ _ _ _ HC.out).mono ?_); rintro e w1 ⟨A0, k0, c, ep, key, rfl, hdc, hst, hb⟩)
  replace B := Lib.hid (B.out.trans (hb.mono B.out.size))
  have z1 := hb.size
  have R0 := Lib.hid hst
  have DC := Lib.hid hdc
  clear hst hdc HC
  clear hb
  have hal : Below w1.heap.size w1 (w1.alloc (.cells #[.int .i64 c.ep, .slice A0 c.sl.length k0] 26)) := (Below.refl _ _).alloc (Nat.le_refl _) _
  have V0 := Lib.hid (vr_new (w0 := w.heap.size) R0.out (by omega))
  replace B := Lib.hid (B.out.trans (hal.mono B.out.size))
  have zzV0 := hal.size
  clear hal R0
  obtain ⟨d1, m1, HA⟩ : ∃ d1 m1, Hid (addF c ep key = d1 ∧ addN c ep key = m1) := ⟨_, _, rfl, rfl⟩
  obtain ⟨V00, V01, V0f⟩ := two_cells V0.out.1
  go_wp2_with fail
  ((with_reducible refine (addI HA.out V0.out.st).mono ?_); rintro e w2 ⟨AV1, kV1, GV1, rfl, ho, hw, hb⟩)
  replace V0 := Lib.hid (V0.out.below hb (Nat.le_refl _))
  replace B := Lib.hid (B.out.trans (hb.mono B.out.size))
  have z2 := hb.size
  have RV1 := Lib.hid (ho.sts hw)
  clear ho hw
  clear V00 V01 V0f hb
  have hal : Below w2.heap.size w2 (w2.alloc (.cells #[.int .i64 d1.ep, .slice AV1 d1.sl.length kV1] 26)) := (Below.refl _ _).alloc (Nat.le_refl _) _
  have V1 := Lib.hid (vr_new (w0 := w.heap.size) RV1.out (by omega))
  replace V0 := Lib.hid (V0.out.below hal (Nat.le_refl _))
  replace B := Lib.hid (B.out.trans (hal.mono B.out.size))
  have zzV1 := hal.size
  clear hal RV1
  obtain ⟨V00, V01, V0f⟩ := two_cells V0.out.1
  go_wp2_with fail
  ((with_reducible refine (addS HA.out V0.out.st).mono ?_); rintro e w3 ⟨AV2, kV2, GV2, rfl, ho, hw, hb⟩)
  replace V0 := Lib.hid (V0.out.below hb (Nat.le_refl _))
  replace V1 := Lib.hid (V1.out.below hb (Nat.le_refl _))
  replace B := Lib.hid (B.out.trans (hb.mono B.out.size))
  have z3 := hb.size
  have RV2 := Lib.hid (ho.sts hw)
  clear ho hw
  clear V00 V01 V0f hb
  have hal : Below w3.heap.size w3 (w3.alloc (.cells #[.int .i64 d1.ep, .slice AV2 d1.sl.length kV2] 26)) := (Below.refl _ _).alloc (Nat.le_refl _) _
  have V2 := Lib.hid (vr_new (w0 := w.heap.size) RV2.out (by omega))
  replace V0 := Lib.hid (V0.out.below hal (Nat.le_refl _))
  replace V1 := Lib.hid (V1.out.below hal (Nat.le_refl _))
  replace B := Lib.hid (B.out.trans (hal.mono B.out.size))
  have zzV2 := hal.size
  clear hal RV2
  have e0 : (m1 != m1) = false := by simp
  have e1 : (m1 == m1) = true := by simp
  obtain ⟨V10, V11, V1f⟩ := two_cells V1.out.1
  obtain ⟨V20, V21, V2f⟩ := two_cells V2.out.1
  go_wp2_with fail
  ((with_reducible refine (sameV V1.out.st V2.out.st).mono ?_); rintro e w4 ⟨rfl, hb⟩)
  replace V0 := Lib.hid (V0.out.below hb (Nat.le_refl _))
  replace V1 := Lib.hid (V1.out.below hb (Nat.le_refl _))
  replace V2 := Lib.hid (V2.out.below hb (Nat.le_refl _))
  replace B := Lib.hid (B.out.trans (hb.mono B.out.size))
  have z4 := hb.size
  clear V10 V11 V1f V20 V21 V2f hb
  by_cases hz : ¬ m1 = 0
  · have e2 : (m1 != 0) = true := by simpa using hz
    obtain ⟨V10, V11, V1f⟩ := two_cells V1.out.1
    obtain ⟨V20, V21, V2f⟩ := two_cells V2.out.1
    go_wp2_with fail
    ((with_reducible refine (sameV V1.out.st V2.out.st).mono ?_); rintro e w5 ⟨rfl, hb⟩)
    replace V0 := Lib.hid (V0.out.below hb (Nat.le_refl _))
    replace V1 := Lib.hid (V1.out.below hb (Nat.le_refl _))
    replace V2 := Lib.hid (V2.out.below hb (Nat.le_refl _))
    replace B := Lib.hid (B.out.trans (hb.mono B.out.size))
    have z5 := hb.size
    clear V10 V11 V1f V20 V21 V2f hb
    go_wp2
    go_ret
    exact ⟨rfl, B.out⟩
  replace hz : m1 = 0 := by omega
  subst hz
  have HEP := Lib.hid (done_ep HA.out.2)
  obtain ⟨hp0, hp1⟩ := HEP.out
  go_wp2_with fail
  ((with_reducible refine (DrawCacheAdd _ _ _ _ (HC2.out _ B.out)).mono ?_); rintro e w5 ⟨A9, k9, c9, ep9, key2, rfl, hdc, hst, hb⟩)
  replace V0 := Lib.hid (V0.out.below hb (Nat.le_refl _))
  replace V1 := Lib.hid (V1.out.below hb (Nat.le_refl _))
  replace V2 := Lib.hid (V2.out.below hb (Nat.le_refl _))
  replace B := Lib.hid (B.out.trans (hb.mono B.out.size))
  have z5 := hb.size
  have R9 := Lib.hid hst
  clear hdc hst HC2
  clear hb
  have hal : Below w5.heap.size w5 (w5.alloc (.cells #[.int .i64 c9.ep, .slice A9 c9.sl.length k9] 26)) := (Below.refl _ _).alloc (Nat.le_refl _) _
  have V9 := Lib.hid (vr_new (w0 := w.heap.size) R9.out (by omega))
  replace V0 := Lib.hid (V0.out.below hal (Nat.le_refl _))
  replace V1 := Lib.hid (V1.out.below hal (Nat.le_refl _))
  replace V2 := Lib.hid (V2.out.below hal (Nat.le_refl _))
  replace B := Lib.hid (B.out.trans (hal.mono B.out.size))
  have zzV9 := hal.size
  clear hal R9
  obtain ⟨r, hr, hr0, hr1⟩ : ∃ r : Int, ((n1 : Nat) : Int).tmod 3 = r ∧ 0 ≤ r ∧ r ≤ 2 := ⟨_, rfl, Int.tmod_nonneg _ (by omega), by have := Int.tmod_lt_of_pos ((n1 : Nat) : Int) (show (0 : Int) < 3 by decide); omega⟩
  obtain ⟨y, hy⟩ : ∃ y, y = c.ep - r := ⟨_, rfl⟩
  have ey : IntKind.i64.wrap (c.ep - r) = y := by rw [hy]; exact IntWalk.i64_in _ (by omega)
  have HY := Lib.hid hy
  clear hy
  obtain ⟨d2, m2, HA2⟩ : ∃ d2 m2, Hid (addF d1 (max y 0) key2 = d2 ∧ addN d1 (max y 0) key2 = m2) := ⟨_, _, rfl, rfl⟩
  obtain ⟨d3, m3, HA3⟩ : ∃ d3 m3, Hid (addF c (max y 0) key2 = d3 ∧ addN c (max y 0) key2 = m3) := ⟨_, _, rfl, rfl⟩
  obtain ⟨d4, m4, HA4⟩ : ∃ d4 m4, Hid (addF d3 ep key = d4 ∧ addN d3 ep key = m4) := ⟨_, _, rfl, rfl⟩
  obtain ⟨V10, V11, V1f⟩ := two_cells V1.out.1
  obtain ⟨V00, V01, V0f⟩ := two_cells V0.out.1
  go_wp2_with fail
  ((with_reducible refine (addI HA2.out V1.out.st).mono ?_); rintro e w7 ⟨AV4, kV4, GV4, rfl, ho, hw, hb⟩)
  replace V0 := Lib.hid (V0.out.below hb (Nat.le_refl _))
  replace V1 := Lib.hid (V1.out.below hb (Nat.le_refl _))
  replace V2 := Lib.hid (V2.out.below hb (Nat.le_refl _))
  replace V9 := Lib.hid (V9.out.below hb (Nat.le_refl _))
  replace B := Lib.hid (B.out.trans (hb.mono B.out.size))
  have z7 := hb.size
  have RV4 := Lib.hid (ho.sts hw)
  clear ho hw
  clear V10 V11 V1f V00 V01 V0f hb
  have hal : Below w7.heap.size w7 (w7.alloc (.cells #[.int .i64 d2.ep, .slice AV4 d2.sl.length kV4] 26)) := (Below.refl _ _).alloc (Nat.le_refl _) _
  have V4 := Lib.hid (vr_new (w0 := w.heap.size) RV4.out (by omega))
  replace V0 := Lib.hid (V0.out.below hal (Nat.le_refl _))
  replace V1 := Lib.hid (V1.out.below hal (Nat.le_refl _))
  replace V2 := Lib.hid (V2.out.below hal (Nat.le_refl _))
  replace V9 := Lib.hid (V9.out.below hal (Nat.le_refl _))
  replace B := Lib.hid (B.out.trans (hal.mono B.out.size))
  have zzV4 := hal.size
  clear hal RV4
  obtain ⟨V00, V01, V0f⟩ := two_cells V0.out.1
  go_wp2_with fail
  ((with_reducible refine (addI HA3.out V0.out.st).mono ?_); rintro e w8 ⟨AV5, kV5, GV5, rfl, ho, hw, hb⟩)
  replace V0 := Lib.hid (V0.out.below hb (Nat.le_refl _))
  replace V1 := Lib.hid (V1.out.below hb (Nat.le_refl _))
  replace V2 := Lib.hid (V2.out.below hb (Nat.le_refl _))
  replace V9 := Lib.hid (V9.out.below hb (Nat.le_refl _))
  replace V4 := Lib.hid (V4.out.below hb (Nat.le_refl _))
  replace B := Lib.hid (B.out.trans (hb.mono B.out.size))
  have z8 := hb.size
  have RV5 := Lib.hid (ho.sts hw)
  clear ho hw
  clear V00 V01 V0f hb
  have hal : Below w8.heap.size w8 (w8.alloc (.cells #[.int .i64 d3.ep, .slice AV5 d3.sl.length kV5] 26)) := (Below.refl _ _).alloc (Nat.le_refl _) _
  have V5 := Lib.hid (vr_new (w0 := w.heap.size) RV5.out (by omega))
  replace V0 := Lib.hid (V0.out.below hal (Nat.le_refl _))
  replace V1 := Lib.hid (V1.out.below hal (Nat.le_refl _))
  replace V2 := Lib.hid (V2.out.below hal (Nat.le_refl _))
  replace V9 := Lib.hid (V9.out.below hal (Nat.le_refl _))
  replace V4 := Lib.hid (V4.out.below hal (Nat.le_refl _))
  replace B := Lib.hid (B.out.trans (hal.mono B.out.size))
  have zzV5 := hal.size
  clear hal RV5
  obtain ⟨V50, V51, V5f⟩ := two_cells V5.out.1
  go_wp2_with fail
  ((with_reducible refine (addI HA4.out V5.out.st).mono ?_); rintro e w9 ⟨AV6, kV6, GV6, rfl, ho, hw, hb⟩)
  replace V0 := Lib.hid (V0.out.below hb (Nat.le_refl _))
  replace V1 := Lib.hid (V1.out.below hb (Nat.le_refl _))
  replace V2 := Lib.hid (V2.out.below hb (Nat.le_refl _))
  replace V9 := Lib.hid (V9.out.below hb (Nat.le_refl _))
  replace V4 := Lib.hid (V4.out.below hb (Nat.le_refl _))
  replace V5 := Lib.hid (V5.out.below hb (Nat.le_refl _))
  replace B := Lib.hid (B.out.trans (hb.mono B.out.size))
  have z9 := hb.size
  have RV6 := Lib.hid (ho.sts hw)
  clear ho hw
  clear V50 V51 V5f hb
  have hal : Below w9.heap.size w9 (w9.alloc (.cells #[.int .i64 d4.ep, .slice AV6 d4.sl.length kV6] 26)) := (Below.refl _ _).alloc (Nat.le_refl _) _
  have V6 := Lib.hid (vr_new (w0 := w.heap.size) RV6.out (by omega))
  replace V0 := Lib.hid (V0.out.below hal (Nat.le_refl _))
  replace V1 := Lib.hid (V1.out.below hal (Nat.le_refl _))
  replace V2 := Lib.hid (V2.out.below hal (Nat.le_refl _))
  replace V9 := Lib.hid (V9.out.below hal (Nat.le_refl _))
  replace V4 := Lib.hid (V4.out.below hal (Nat.le_refl _))
  replace V5 := Lib.hid (V5.out.below hal (Nat.le_refl _))
  replace B := Lib.hid (B.out.trans (hal.mono B.out.size))
  have zzV6 := hal.size
  clear hal RV6
  by_cases h2 : ¬ m2 = 0
  · have x2 : (m2 != 0) = true := by simpa using h2
    go_wp2
    go_ret
    exact ⟨rfl, B.out⟩
  replace h2 : m2 = 0 := by omega
  subst h2
  by_cases h3 : ¬ m3 = 0
  · have x3 : (m3 != 0) = true := by simpa using h3
    go_wp2
    go_ret
    exact ⟨rfl, B.out⟩
  replace h3 : m3 = 0 := by omega
  subst h3
  by_cases h4 : ¬ m4 = 0
  · have x4 : (m4 != 0) = true := by simpa using h4
    go_wp2
    go_ret
    exact ⟨rfl, B.out⟩
  replace h4 : m4 = 0 := by omega
  subst h4
  have HE : Hid (d4 = d2) := order_eq HA.out.2 HA.out.1 HA2.out.2 HA2.out.1 HA3.out.2 HA3.out.1 HA4.out.2 HA4.out.1
  obtain rfl := HE.out
  obtain ⟨V60, V61, V6f⟩ := two_cells V6.out.1
  obtain ⟨V40, V41, V4f⟩ := two_cells V4.out.1
  go_wp2_with fail
  ((with_reducible refine (sameV V6.out.st V4.out.st).mono ?_); rintro e w10 ⟨rfl, hb⟩)
  replace V0 := Lib.hid (V0.out.below hb (Nat.le_refl _))
  replace V1 := Lib.hid (V1.out.below hb (Nat.le_refl _))
  replace V2 := Lib.hid (V2.out.below hb (Nat.le_refl _))
  replace V9 := Lib.hid (V9.out.below hb (Nat.le_refl _))
  replace V4 := Lib.hid (V4.out.below hb (Nat.le_refl _))
  replace V5 := Lib.hid (V5.out.below hb (Nat.le_refl _))
  replace V6 := Lib.hid (V6.out.below hb (Nat.le_refl _))
  replace B := Lib.hid (B.out.trans (hb.mono B.out.size))
  have z10 := hb.size
  clear V60 V61 V6f V40 V41 V4f hb
  go_wp2
  go_ret
  exact ⟨rfl, B.out⟩

set_option maxRecDepth 20000 in
set_option maxHeartbeats 1000000 in
theorem fnCacheTurn (A : Option Addr) (n c : Nat) (w : World) (h : CodeIs w A n c) :
    Calls Try.prog 8 #[.slice A n c] w (TruePost w) := by
  have HC := Lib.hid h
  clear h
  by_cases hn : 1048576 < n
  · go_enter Try.func8, Try.ntmps8
    go_wp2
    go_ret
    exact ⟨rfl, Below.refl _ _⟩
  have B : Hid (Below w.heap.size w w) := Below.refl _ _
  go_enter Try.func8, Try.ntmps8
  go_wp2_with fail
  ((with_reducible refine (DrawCacheTurn _ _ _ _ HC.out).mono ?_); rintro e w1 ⟨A0, k0, c, rfl, hdc, hst, hb⟩)
  replace B := Lib.hid (B.out.trans (hb.mono B.out.size))
  have z1 := hb.size
  have R0 := Lib.hid hst
  clear hdc hst HC
  clear hb
  have hal : Below w1.heap.size w1 (w1.alloc (.cells #[.int .i64 c.ep, .slice A0 c.sl.length k0] 26)) := (Below.refl _ _).alloc (Nat.le_refl _) _
  have V0 := Lib.hid (vr_new (w0 := w.heap.size) R0.out (by omega))
  replace B := Lib.hid (B.out.trans (hal.mono B.out.size))
  have zzV0 := hal.size
  clear hal R0
  obtain ⟨d1, ok, HA⟩ : ∃ d1 ok, Hid (turnF c = d1 ∧ turnB c = ok) := ⟨_, _, rfl, rfl⟩
  obtain ⟨V00, V01, V0f⟩ := two_cells V0.out.1
  go_wp2_with fail
  ((with_reducible refine (turnI HA.out V0.out.st).mono ?_); rintro e w2 ⟨AV1, kV1, GV1, rfl, ho, hw, hb⟩)
  replace V0 := Lib.hid (V0.out.below hb (Nat.le_refl _))
  replace B := Lib.hid (B.out.trans (hb.mono B.out.size))
  have z2 := hb.size
  have RV1 := Lib.hid (ho.sts hw)
  clear ho hw
  clear V00 V01 V0f hb
  have hal : Below w2.heap.size w2 (w2.alloc (.cells #[.int .i64 d1.ep, .slice AV1 d1.sl.length kV1] 26)) := (Below.refl _ _).alloc (Nat.le_refl _) _
  have V1 := Lib.hid (vr_new (w0 := w.heap.size) RV1.out (by omega))
  replace V0 := Lib.hid (V0.out.below hal (Nat.le_refl _))
  replace B := Lib.hid (B.out.trans (hal.mono B.out.size))
  have zzV1 := hal.size
  clear hal RV1
  obtain ⟨V00, V01, V0f⟩ := two_cells V0.out.1
  go_wp2_with fail
  ((with_reducible refine (turnS HA.out V0.out.st).mono ?_); rintro e w3 ⟨AV2, kV2, GV2, rfl, ho, hw, hb⟩)
  replace V0 := Lib.hid (V0.out.below hb (Nat.le_refl _))
  replace V1 := Lib.hid (V1.out.below hb (Nat.le_refl _))
  replace B := Lib.hid (B.out.trans (hb.mono B.out.size))
  have z3 := hb.size
  have RV2 := Lib.hid (ho.sts hw)
  clear ho hw
  clear V00 V01 V0f hb
  have hal : Below w3.heap.size w3 (w3.alloc (.cells #[.int .i64 d1.ep, .slice AV2 d1.sl.length kV2] 26)) := (Below.refl _ _).alloc (Nat.le_refl _) _
  have V2 := Lib.hid (vr_new (w0 := w.heap.size) RV2.out (by omega))
  replace V0 := Lib.hid (V0.out.below hal (Nat.le_refl _))
  replace V1 := Lib.hid (V1.out.below hal (Nat.le_refl _))
  replace B := Lib.hid (B.out.trans (hal.mono B.out.size))
  have zzV2 := hal.size
  clear hal RV2
  have e0 : (ok != ok) = false := by cases ok <;> rfl
  have e1 : (ok == ok) = true := by cases ok <;> rfl
  obtain ⟨V10, V11, V1f⟩ := two_cells V1.out.1
  obtain ⟨V20, V21, V2f⟩ := two_cells V2.out.1
  go_wp2_with fail
  ((with_reducible refine (sameV V1.out.st V2.out.st).mono ?_); rintro e w4 ⟨rfl, hb⟩)
  replace V0 := Lib.hid (V0.out.below hb (Nat.le_refl _))
  replace V1 := Lib.hid (V1.out.below hb (Nat.le_refl _))
  replace V2 := Lib.hid (V2.out.below hb (Nat.le_refl _))
  replace B := Lib.hid (B.out.trans (hb.mono B.out.size))
  have z4 := hb.size
  clear V10 V11 V1f V20 V21 V2f hb
  cases ok
  · obtain ⟨V10, V11, V1f⟩ := two_cells V1.out.1
    obtain ⟨V20, V21, V2f⟩ := two_cells V2.out.1
    go_wp2_with fail
    ((with_reducible refine (sameV V1.out.st V2.out.st).mono ?_); rintro e w5 ⟨rfl, hb⟩)
    replace V0 := Lib.hid (V0.out.below hb (Nat.le_refl _))
    replace V1 := Lib.hid (V1.out.below hb (Nat.le_refl _))
    replace V2 := Lib.hid (V2.out.below hb (Nat.le_refl _))
    replace B := Lib.hid (B.out.trans (hb.mono B.out.size))
    have z5 := hb.size
    clear V10 V11 V1f V20 V21 V2f hb
    go_wp2
    go_ret
    exact ⟨rfl, B.out⟩
  have HT := Lib.hid (turn_of HA.out.2 HA.out.1)
  have hep := HT.out.2.1
  obtain ⟨hp0, hp1⟩ := HT.out.1
  have HEQ := Lib.hid hep
  have ew : IntKind.i64.wrap (d1.ep - 3) = d1.ep - 3 := IntWalk.i64_in _ (by omega)
  have ew1 : IntKind.i64.wrap (d1.ep - 3 + 1) = d1.ep - 3 + 1 := IntWalk.i64_in _ (by omega)
  have ew2 : IntKind.i64.wrap (c.ep + 1) = c.ep + 1 := IntWalk.i64_in _ (by omega)
  clear hep
  obtain ⟨V00, V01, V0f⟩ := two_cells V0.out.1
  obtain ⟨V10, V11, V1f⟩ := two_cells V1.out.1
  go_wp2
  clear V00 V01 V0f V10 V11 V1f
  go_loopw [8] (fun i wr => ∃ j : Nat, j ≤ 2 ∧ i = .int .i64 (d1.ep - 3 + 1 + (j : Nat)) ∧ Hid (Vr w.heap.size wr w1.heap.size c A0 k0 ∧ Vr w.heap.size wr w2.heap.size d1 AV1 kV1 ∧ Below w.heap.size w wr)) (fun i _ => (2 + 1 : Nat) - (intOf i - (d1.ep - 3 + 1 + ((0 : Nat) : Int))).toNat)
  case atStart => exact ⟨0, Nat.zero_le _, by simp, V0.out, V1.out, B.out⟩
  case round =>
    obtain ⟨j, hj, rfl, hT⟩ := hrel
    clear V0 V1 B
    have V0 := Lib.hid hT.out.1
    have V1 := Lib.hid hT.out.2.1
    have B := Lib.hid hT.out.2.2
    clear hT
    have zB := B.out.size
    by_cases hlj : j < 2
    · have hep := HEQ.out
      have hle : d1.ep - 3 + 1 + (j : Int) ≤ c.ep := by omega
      have ej : IntKind.i64.wrap (d1.ep - 3 + 1 + (j : Int) + 1) = d1.ep - 3 + 1 + (j : Int) + 1 := IntWalk.i64_in _ (by omega)
      obtain ⟨ks, HK⟩ : ∃ ks, Hid (keysF d1 (d1.ep - 3 + 1 + (j : Int)) = ks ∧ keysF c (d1.ep - 3 + 1 + (j : Int)) = ks) := ⟨_, rfl, HT.out.2.2.2.1 _ (by omega) (by omega)⟩
      clear hep
      have VD0 : Hid (Vr w.heap.size wr.drew w1.heap.size c A0 k0) := vr_drew V0.out
      have VD1 : Hid (Vr w.heap.size wr.drew w2.heap.size d1 AV1 kV1) := vr_drew V1.out
      obtain ⟨V00, V01, V0f⟩ := two_cells V0.out.1
      obtain ⟨V10, V11, V1f⟩ := two_cells V1.out.1
      go_upto_region 11 with (fail)
      go_region_law (first
        | (go_simp; go_at_call 30; refine (sameK I5.out I6.out).mono ?_; rintro e w7 ⟨rfl, hb7⟩)
        | (go_simp; go_at_call 21; refine (keysI HK.out.2 V05.out.st).mono ?_; rintro e w6 ⟨A6, k6, rfl, ho6, hb6⟩
           have I6 := Lib.hid ho6.ints
           have I5 := Lib.hid (I5.out.below hb6 (Nat.le_refl _))
           have V06 := Lib.hid (V05.out.below hb6 (Nat.le_refl _))
           have V16 := Lib.hid (V15.out.below hb6 (Nat.le_refl _)))
        | (go_simp; go_at_call 21; refine (keysI HK.out.1 VD1.out.st).mono ?_; rintro e w5 ⟨A5, k5, rfl, ho5, hb5⟩
           have I5 := Lib.hid ho5.ints
           have V05 := Lib.hid (VD0.out.below hb5 (Nat.le_refl _))
           have V15 := Lib.hid (VD1.out.below hb5 (Nat.le_refl _))
           obtain ⟨q0, q1, qf⟩ := two_cells V05.out.1)
        | fail)
      all_goals
        have V07 := Lib.hid (V06.out.below hb7 (Nat.le_refl _))
        have V17 := Lib.hid (V16.out.below hb7 (Nat.le_refl _))
        have B7 := Lib.hid ((((drew_bl B.out 1).trans (hb5.mono (drew_bl B.out 1).size)).trans (hb6.mono (Nat.le_trans (drew_bl B.out 1).size hb5.size))).trans (hb7.mono (Nat.le_trans (Nat.le_trans (drew_bl B.out 1).size hb5.size) hb6.size)))
        clear ho5 ho6 hb5 hb6 hb7 q0 q1 qf V00 V01 V0f V10 V11 V1f
        go_wp2
        go_roundw
        case rel => exact ⟨j + 1, by omega, by first | go_num | (congr 1; push_cast; omega), V07.out, V17.out, B7.out⟩
        case measure => simp [intOf]; omega
    obtain rfl : j = 2 := by omega
    clear hlj
    have hep := HEQ.out
    have hlt : ¬ (d1.ep - 3 + 1 + ((2 : Nat) : Int) ≤ c.ep) := by omega
    have hq : (d1.ep == c.ep + 1) = true := by simpa using hep
    obtain ⟨d4, HN⟩ : ∃ d4, Hid (addF d1 (d1.ep - 3) 1 = d4 ∧ addN d1 (d1.ep - 3) 1 = 2) := ⟨_, rfl, (add_wrong HT.out.2.2.1 (by decide) (slotIx_no (by omega))).1⟩
    have HK := Lib.hid HT.out.2.2.2.2.1
    clear hep
    obtain ⟨V10, V11, V1f⟩ := two_cells V1.out.1
    obtain ⟨V00, V01, V0f⟩ := two_cells V0.out.1
    go_wp2_with fail
    ((with_reducible refine (addI HN.out V1.out.st).mono ?_); rintro e w5 ⟨AV4, kV4, GV4, rfl, ho, hw, hb⟩)
    replace V0 := Lib.hid (V0.out.below hb (Nat.le_refl _))
    replace V1 := Lib.hid (V1.out.below hb (Nat.le_refl _))
    replace B := Lib.hid (B.out.trans (hb.mono B.out.size))
    have z5 := hb.size
    have RV4 := Lib.hid (ho.sts hw)
    clear ho hw
    clear V10 V11 V1f V00 V01 V0f hb
    have hal : Below w5.heap.size w5 (w5.alloc (.cells #[.int .i64 d4.ep, .slice AV4 d4.sl.length kV4] 26)) := (Below.refl _ _).alloc (Nat.le_refl _) _
    have V4 := Lib.hid (vr_new (w0 := w.heap.size) RV4.out (by omega))
    replace V0 := Lib.hid (V0.out.below hal (Nat.le_refl _))
    replace V1 := Lib.hid (V1.out.below hal (Nat.le_refl _))
    replace B := Lib.hid (B.out.trans (hal.mono B.out.size))
    have zzV4 := hal.size
    clear hal RV4
    obtain ⟨V00, V01, V0f⟩ := two_cells V0.out.1
    obtain ⟨V10, V11, V1f⟩ := two_cells V1.out.1
    go_wp2_with fail
    ((with_reducible refine (keysI HK.out V1.out.st).mono ?_); rintro e w6 ⟨AI9, kI9, rfl, ho, hb⟩)
    replace V0 := Lib.hid (V0.out.below hb (Nat.le_refl _))
    replace V1 := Lib.hid (V1.out.below hb (Nat.le_refl _))
    replace V4 := Lib.hid (V4.out.below hb (Nat.le_refl _))
    replace B := Lib.hid (B.out.trans (hb.mono B.out.size))
    have z6 := hb.size
    have I9 := Lib.hid ho.ints
    clear ho
    clear V10 V11 V1f hb
    clear V00 V01 V0f
    obtain ⟨V10, V11, V1f⟩ := two_cells V1.out.1
    go_wp2_with fail
    ((with_reducible refine (Im8.CacheValid _ _ _ _ _ _ _ V1.out.st).mono ?_); rintro e w7 ⟨rfl, hb⟩)
    rw [HT.out.2.2.1]
    replace V0 := Lib.hid (V0.out.below hb (Nat.le_refl _))
    replace V1 := Lib.hid (V1.out.below hb (Nat.le_refl _))
    replace V4 := Lib.hid (V4.out.below hb (Nat.le_refl _))
    replace I9 := Lib.hid (I9.out.below hb (Nat.le_refl _))
    replace B := Lib.hid (B.out.trans (hb.mono B.out.size))
    have z7 := hb.size
    clear V10 V11 V1f hb
    go_wp2
    go_ret
    exact ⟨rfl, B.out⟩

set_option maxRecDepth 20000 in
set_option maxHeartbeats 1000000 in
theorem fnCacheTurnAll (A : Option Addr) (n c : Nat) (w : World) (h : CodeIs w A n c) :
    Calls Try.prog 9 #[.slice A n c] w (TruePost w) := by
  have HC := Lib.hid h
  clear h
  by_cases hn : 1048576 < n
  · go_enter Try.func9, Try.ntmps9
    go_wp2
    go_ret
    exact ⟨rfl, Below.refl _ _⟩
  have B : Hid (Below w.heap.size w w) := Below.refl _ _
  go_enter Try.func9, Try.ntmps9
  go_wp2_with fail
  ((with_reducible refine (DrawCacheTurn _ _ _ _ HC.out).mono ?_); rintro e w1 ⟨A0, k0, c, rfl, hdc, hst, hb⟩)
  replace B := Lib.hid (B.out.trans (hb.mono B.out.size))
  have z1 := hb.size
  have R0 := Lib.hid hst
  clear hdc hst HC
  clear hb
  have hal : Below w1.heap.size w1 (w1.alloc (.cells #[.int .i64 c.ep, .slice A0 c.sl.length k0] 26)) := (Below.refl _ _).alloc (Nat.le_refl _) _
  have V0 := Lib.hid (vr_new (w0 := w.heap.size) R0.out (by omega))
  replace B := Lib.hid (B.out.trans (hal.mono B.out.size))
  have zzV0 := hal.size
  clear hal R0
  obtain ⟨d1, ok, HA⟩ : ∃ d1 ok, Hid (turnF c = d1 ∧ turnB c = ok) := ⟨_, _, rfl, rfl⟩
  obtain ⟨V00, V01, V0f⟩ := two_cells V0.out.1
  go_wp2_with fail
  ((with_reducible refine (turnI HA.out V0.out.st).mono ?_); rintro e w2 ⟨AV1, kV1, GV1, rfl, ho, hw, hb⟩)
  replace V0 := Lib.hid (V0.out.below hb (Nat.le_refl _))
  replace B := Lib.hid (B.out.trans (hb.mono B.out.size))
  have z2 := hb.size
  have RV1 := Lib.hid (ho.sts hw)
  clear ho hw
  clear V00 V01 V0f hb
  have hal : Below w2.heap.size w2 (w2.alloc (.cells #[.int .i64 d1.ep, .slice AV1 d1.sl.length kV1] 26)) := (Below.refl _ _).alloc (Nat.le_refl _) _
  have V1 := Lib.hid (vr_new (w0 := w.heap.size) RV1.out (by omega))
  replace V0 := Lib.hid (V0.out.below hal (Nat.le_refl _))
  replace B := Lib.hid (B.out.trans (hal.mono B.out.size))
  have zzV1 := hal.size
  clear hal RV1
  obtain ⟨V00, V01, V0f⟩ := two_cells V0.out.1
  go_wp2_with fail
  ((with_reducible refine (turnS HA.out V0.out.st).mono ?_); rintro e w3 ⟨AV2, kV2, GV2, rfl, ho, hw, hb⟩)
  replace V0 := Lib.hid (V0.out.below hb (Nat.le_refl _))
  replace V1 := Lib.hid (V1.out.below hb (Nat.le_refl _))
  replace B := Lib.hid (B.out.trans (hb.mono B.out.size))
  have z3 := hb.size
  have RV2 := Lib.hid (ho.sts hw)
  clear ho hw
  clear V00 V01 V0f hb
  have hal : Below w3.heap.size w3 (w3.alloc (.cells #[.int .i64 d1.ep, .slice AV2 d1.sl.length kV2] 26)) := (Below.refl _ _).alloc (Nat.le_refl _) _
  have V2 := Lib.hid (vr_new (w0 := w.heap.size) RV2.out (by omega))
  replace V0 := Lib.hid (V0.out.below hal (Nat.le_refl _))
  replace V1 := Lib.hid (V1.out.below hal (Nat.le_refl _))
  replace B := Lib.hid (B.out.trans (hal.mono B.out.size))
  have zzV2 := hal.size
  clear hal RV2
  have e0 : (ok != ok) = false := by cases ok <;> rfl
  have e1 : (ok == ok) = true := by cases ok <;> rfl
  obtain ⟨V10, V11, V1f⟩ := two_cells V1.out.1
  obtain ⟨V20, V21, V2f⟩ := two_cells V2.out.1
  go_wp2_with fail
  ((with_reducible refine (sameV V1.out.st V2.out.st).mono ?_); rintro e w4 ⟨rfl, hb⟩)
  replace V0 := Lib.hid (V0.out.below hb (Nat.le_refl _))
  replace V1 := Lib.hid (V1.out.below hb (Nat.le_refl _))
  replace V2 := Lib.hid (V2.out.below hb (Nat.le_refl _))
  replace B := Lib.hid (B.out.trans (hb.mono B.out.size))
  have z4 := hb.size
  clear V10 V11 V1f V20 V21 V2f hb
  cases ok
  · obtain ⟨V10, V11, V1f⟩ := two_cells V1.out.1
    obtain ⟨V20, V21, V2f⟩ := two_cells V2.out.1
    go_wp2_with fail
    ((with_reducible refine (sameV V1.out.st V2.out.st).mono ?_); rintro e w5 ⟨rfl, hb⟩)
    replace V0 := Lib.hid (V0.out.below hb (Nat.le_refl _))
    replace V1 := Lib.hid (V1.out.below hb (Nat.le_refl _))
    replace V2 := Lib.hid (V2.out.below hb (Nat.le_refl _))
    replace B := Lib.hid (B.out.trans (hb.mono B.out.size))
    have z5 := hb.size
    clear V10 V11 V1f V20 V21 V2f hb
    go_wp2
    go_ret
    exact ⟨rfl, B.out⟩
  have HT := Lib.hid (turn_of HA.out.2 HA.out.1)
  have hep := HT.out.2.1
  obtain ⟨hp0, hp1⟩ := HT.out.1
  have HEQ := Lib.hid hep
  have q1 : IntKind.i64.wrap (d1.ep + 3) = d1.ep + 3 := IntWalk.i64_in _ (by omega)
  have q2 : IntKind.i64.wrap (d1.ep + 3 - 1) = d1.ep + 3 - 1 := IntWalk.i64_in _ (by omega)
  by_cases h99 : 99 < d1.ep + 3 - 1
  · have hd9 : decide (99 < d1.ep + 3 - 1) = true := by simpa using h99
    clear hep
    obtain ⟨V10, V11, V1f⟩ := two_cells V1.out.1
    obtain ⟨V20, V21, V2f⟩ := two_cells V2.out.1
    go_wp2_with fail
    ((with_reducible refine (sameV V1.out.st V2.out.st).mono ?_); rintro e w5 ⟨rfl, hb⟩)
    replace V0 := Lib.hid (V0.out.below hb (Nat.le_refl _))
    replace V1 := Lib.hid (V1.out.below hb (Nat.le_refl _))
    replace V2 := Lib.hid (V2.out.below hb (Nat.le_refl _))
    replace B := Lib.hid (B.out.trans (hb.mono B.out.size))
    have z5 := hb.size
    clear V10 V11 V1f V20 V21 V2f hb
    go_wp2
    go_ret
    exact ⟨rfl, B.out⟩
  have hd9 : decide (99 < d1.ep + 3 - 1) = false := by simpa using h99
  have HTK := Lib.hid (turnK_next (turnK_zero HT.out.2.2.2.2.2.1) HA.out.2 HA.out.1 (by omega)).1
  have hc96 : c.ep + 3 ≤ 99 := by omega
  have qe : IntKind.i64.wrap (c.ep + 3) = c.ep + 3 := IntWalk.i64_in _ (by omega)
  clear hep h99
  have hal : Below w4.heap.size w4 (w4.alloc (.cells #[.int .i64 d1.ep, .slice AV1 d1.sl.length kV1] 26)) := (Below.refl _ _).alloc (Nat.le_refl _) _
  have hsb : w1.heap.size < w4.heap.size := V0.out.1.lt
  have HST : Hid (Blk (w4.alloc (.cells #[.int .i64 d1.ep, .slice AV1 d1.sl.length kV1] 26)) w1.heap.size #[.int .i64 c.ep, .slice A0 c.sl.length k0] 26 ∧ Vr w.heap.size (w4.alloc (.cells #[.int .i64 d1.ep, .slice AV1 d1.sl.length kV1] 26)) w4.heap.size d1 AV1 kV1 ∧ (w.heap.size ≤ w1.heap.size ∧ w1.heap.size < w4.heap.size) ∧ Below w.heap.size w (w4.alloc (.cells #[.int .i64 d1.ep, .slice AV1 d1.sl.length kV1] 26))) := ⟨Blk.below V0.out.1 hal (Nat.le_refl _), vr_new V1.out.st (Nat.le_refl _), ⟨by omega, hsb⟩, B.out.trans (hal.mono B.out.size)⟩
  obtain ⟨V10, V11, V1f⟩ := two_cells V1.out.1
  obtain ⟨V20, V21, V2f⟩ := two_cells V2.out.1
  clear hal V0 B
  go_wp2
  clear V10 V11 V1f V20 V21 V2f V1 V2
  generalize (w4.alloc (.cells #[.int .i64 d1.ep, .slice AV1 d1.sl.length kV1] 26)) = wS at *
  generalize w4.heap.size = bx at *
  generalize w1.heap.size = b0 at *
  go_loopw [9] (fun i wr => ∃ (j : Nat) (dd : Ch) (A : Option Addr) (k : Nat), j ≤ 2 ∧ i = .int .i64 (1 + (j : Nat)) ∧ Hid (TurnK c (1 + j) dd) ∧ Hid (Blk wr b0 #[.int .i64 c.ep, .slice A0 c.sl.length k0] 26 ∧ Vr w.heap.size wr bx dd A k ∧ (w.heap.size ≤ b0 ∧ b0 < bx) ∧ Below w.heap.size w wr)) (fun i _ => (3 - intOf i).toNat)
  case atStart => exact ⟨0, d1, AV1, kV1, Nat.zero_le _, by simp, HTK.out, HST.out⟩
  case round =>
    obtain ⟨j, dd, A, k, hj, rfl, hK, hT⟩ := hrel
    clear HST HTK
    have K0 := Lib.hid hT.out.1
    have V3 := Lib.hid hT.out.2.1
    have HLT := Lib.hid hT.out.2.2.1
    have B := Lib.hid hT.out.2.2.2
    clear hT
    have zB := B.out.size
    have hbz : bx < wr.heap.size := V3.out.1.lt
    obtain ⟨hl0, hl1⟩ := HLT.out
    obtain ⟨V30, V31, V3f⟩ := two_cells V3.out.1
    by_cases hlj : j < 2
    · have hle : (1 : Int) + (j : Int) < 3 := by omega
      obtain ⟨d2, HA2⟩ : ∃ d2, Hid (turnF dd = d2 ∧ turnB dd = true) := ⟨_, rfl, turnK_can hK.out (by omega)⟩
      have HK2 : Hid (TurnK c (1 + (j + 1)) d2) := (turnK_next hK.out HA2.out.2 HA2.out.1 (by omega)).2
      go_wp2_with fail
      ((with_reducible refine (turnI HA2.out V3.out.st).mono ?_); rintro e w5 ⟨A4, k4, G4, rfl, ho, hw, hb⟩)
      have hs5 := hb.size
      have hal : Below w5.heap.size w5 (w5.alloc (.cells #[.int .i64 d2.ep, .slice A4 d2.sl.length k4] 26)) := (Below.refl _ _).alloc (Nat.le_refl _) _
      have RS := Lib.hid ((ho.sts hw).below hal (Nat.le_refl _))
      have KN := Lib.hid (blk_new w5 #[.int .i64 d2.ep, .slice A4 d2.sl.length k4] 26)
      have hb6 := hb.trans (hal.mono hs5)
      replace K0 := Lib.hid (Blk.below K0.out hb6 (Nat.le_refl _))
      replace V3 := Lib.hid (Blk.below V3.out.1 hb6 (Nat.le_refl _))
      replace B := Lib.hid (B.out.trans (hb6.mono B.out.size))
      have hs6 := hal.size
      clear ho hw hb hal hb6 V30 V31 V3f
      go_upto_region 13 with (fail)
      generalize (w5.alloc (.cells #[.int .i64 d2.ep, .slice A4 d2.sl.length k4] 26)) = w6 at *
      obtain ⟨V30, V31, V3f⟩ := two_cells V3.out
      obtain ⟨n0, n1, nf⟩ := two_cells KN.out
      have HS : Hid (Blk ((w6.setCell ⟨bx, 0, none⟩ (.int .i64 d2.ep)).setCell ⟨bx, 1, none⟩ (.slice A4 d2.sl.length k4)) b0 #[.int .i64 c.ep, .slice A0 c.sl.length k0] 26 ∧ Vr w.heap.size ((w6.setCell ⟨bx, 0, none⟩ (.int .i64 d2.ep)).setCell ⟨bx, 1, none⟩ (.slice A4 d2.sl.length k4)) bx d2 A4 k4 ∧ (w.heap.size ≤ b0 ∧ b0 < bx) ∧ Below w.heap.size w ((w6.setCell ⟨bx, 0, none⟩ (.int .i64 d2.ep)).setCell ⟨bx, 1, none⟩ (.slice A4 d2.sl.length k4))) :=
        ⟨K0.out.same ((Below.heap_setCell _ _ _ _ (show b0 ≠ bx by omega)).trans (Below.heap_setCell _ _ _ _ (show b0 ≠ bx by omega))), vr_put V3.out RS.out hbz (by omega) hs6, HLT.out, (B.out.setCell (p := ⟨bx, 0, none⟩) (show w.heap.size ≤ bx by omega) _).setCell (p := ⟨bx, 1, none⟩) (show w.heap.size ≤ bx by omega) _⟩
      clear K0 V3 B KN RS
      go_wp2
      go_roundw
      case rel => exact ⟨j + 1, d2, A4, k4, by omega, by first | go_num | (congr 1; push_cast; omega), HK2.out, HS.out⟩
      case measure => simp [intOf]; omega
    · obtain rfl : j = 2 := by omega
      have HKY := Lib.hid (turnK_keys hK.out)
      have HEP3 := Lib.hid hK.out.2.1
      have hle : ¬ ((1 : Int) + ((2 : Nat) : Int) < 3) := by omega
      obtain ⟨m, hm⟩ : ∃ m : Nat, dd.ep = (m : Int) := Int.eq_ofNat_of_zero_le (by have := HEP3.out; omega)
      have hm99 : m ≤ 99 := by have := HEP3.out; omega
      have HM := Lib.hid hm
      clear hm hK hlj
      have HST2 : Hid (Blk wr b0 #[.int .i64 c.ep, .slice A0 c.sl.length k0] 26 ∧ Vr w.heap.size wr bx dd A k ∧ Below w.heap.size w wr) := ⟨K0.out, V3.out, B.out⟩
      clear K0 V3 B zB hbz
      go_wp2
      clear V30 V31 V3f
      go_loopw [12] (fun i wr => ∃ j : Nat, j ≤ m + 1 ∧ i = .int .i64 ((j : Nat) : Int) ∧ Hid (Blk wr b0 #[.int .i64 c.ep, .slice A0 c.sl.length k0] 26 ∧ Vr w.heap.size wr bx dd A k ∧ Below w.heap.size w wr)) (fun i _ => (m + 1) - (intOf i).toNat)
      case atStart => exact ⟨0, Nat.zero_le _, rfl, HST2.out⟩
      case round =>
        obtain ⟨j, hj, rfl, hT⟩ := hrel
        clear HST2
        obtain ⟨V30, V31, V3f⟩ := two_cells hT.out.2.1.1
        by_cases hlj : j < m + 1
        · have hle2 : (j : Int) ≤ dd.ep := by have := HM.out; omega
          have HK := Lib.hid (HKY.out (j : Int))
          have VS := Lib.hid hT.out.2.1
          go_wp2_with fail
          ((with_reducible refine (keysI HK.out VS.out.st).mono ?_); rintro e w7 ⟨A7, k7, rfl, ho, hb⟩)
          have HS : Hid (Blk w7 b0 #[.int .i64 c.ep, .slice A0 c.sl.length k0] 26 ∧ Vr w.heap.size w7 bx dd A k ∧ Below w.heap.size w w7) := ⟨Blk.below hT.out.1 hb (Nat.le_refl _), hT.out.2.1.below hb (Nat.le_refl _), hT.out.2.2.trans (hb.mono hT.out.2.2.size)⟩
          clear ho hb hT VS V30 V31 V3f
          go_wp2
          go_roundw
          case rel => exact ⟨j + 1, by omega, by go_num, HS.out⟩
          case measure => simp [intOf]; omega
        · obtain rfl : j = m + 1 := by omega
          have hle2 : ¬ (((m + 1 : Nat) : Int) ≤ dd.ep) := by have := HM.out; omega
          obtain ⟨c0, c1, cf⟩ := two_cells hT.out.1
          have heq : (dd.ep == c.ep + 3) = true := by have := HEP3.out; simp; omega
          have B := Lib.hid hT.out.2.2
          clear hT
          go_wp2
          go_ret
          exact ⟨rfl, B.out⟩

set_option maxRecDepth 20000 in
set_option maxHeartbeats 1000000 in
theorem fnCacheKeys (A : Option Addr) (n c : Nat) (w : World) (h : CodeIs w A n c) :
    Calls Try.prog 10 #[.slice A n c] w (TruePost w) := by
  have HC := Lib.hid h
  clear h
  by_cases hn : 1048576 < n
  · go_enter Try.func10, Try.ntmps10
    go_wp2
    go_ret
    exact ⟨rfl, Below.refl _ _⟩
  have B : Hid (Below w.heap.size w w) := Below.refl _ _
  go_enter Try.func10, Try.ntmps10
  go_wp2_with fail
  ((with_reducible refine (DrawCacheKeys _ _ _ _ HC.out).mono ?_); rintro e w1 ⟨A0, k0, c, ep, rfl, hdc, hst, hb⟩)
  replace B := Lib.hid (B.out.trans (hb.mono B.out.size))
  have z1 := hb.size
  have R0 := Lib.hid hst
  have DC := Lib.hid hdc
  clear hst hdc HC
  clear hb
  have hal : Below w1.heap.size w1 (w1.alloc (.cells #[.int .i64 c.ep, .slice A0 c.sl.length k0] 26)) := (Below.refl _ _).alloc (Nat.le_refl _) _
  have V0 := Lib.hid (vr_new (w0 := w.heap.size) R0.out (by omega))
  replace B := Lib.hid (B.out.trans (hal.mono B.out.size))
  have zzV0 := hal.size
  clear hal R0
  obtain ⟨ks, HKS⟩ : ∃ ks, Hid (keysF c ep = ks) := ⟨_, rfl⟩
  obtain ⟨V00, V01, V0f⟩ := two_cells V0.out.1
  go_wp2_with fail
  ((with_reducible refine (keysI HKS.out V0.out.st).mono ?_); rintro e w2 ⟨AI1, kI1, rfl, ho, hb⟩)
  replace V0 := Lib.hid (V0.out.below hb (Nat.le_refl _))
  replace B := Lib.hid (B.out.trans (hb.mono B.out.size))
  have z2 := hb.size
  have I1 := Lib.hid ho.ints
  clear ho
  clear V00 V01 V0f hb
  obtain ⟨V00, V01, V0f⟩ := two_cells V0.out.1
  go_wp2_with fail
  ((with_reducible refine (keysS HKS.out V0.out.st).mono ?_); rintro e w3 ⟨AI2, kI2, rfl, ho, hb⟩)
  replace V0 := Lib.hid (V0.out.below hb (Nat.le_refl _))
  replace I1 := Lib.hid (I1.out.below hb (Nat.le_refl _))
  replace B := Lib.hid (B.out.trans (hb.mono B.out.size))
  have z3 := hb.size
  have I2 := Lib.hid ho.ints
  clear ho
  clear V00 V01 V0f hb
  go_wp2_with fail
  ((with_reducible refine (sameK I1.out I2.out).mono ?_); rintro e w4 ⟨rfl, hb⟩)
  replace V0 := Lib.hid (V0.out.below hb (Nat.le_refl _))
  replace I1 := Lib.hid (I1.out.below hb (Nat.le_refl _))
  replace I2 := Lib.hid (I2.out.below hb (Nat.le_refl _))
  replace B := Lib.hid (B.out.trans (hb.mono B.out.size))
  have z4 := hb.size
  clear hb
  have HSO : Hid (slotOk ks = true) := by show _ = _; rw [← HKS.out]; exact keysF_ok ep
  have hl6 := (slotOk_iff.1 HSO.out).1
  have hl6i : (ks.length : Int) ≤ 6 := by omega
  have hcap := I1.out.cap_
  have hmax := I1.out.2.2.1
  unfold maxLen at hmax
  have HSB : Hid (slotB ks = true) := by have h := HSO.out; unfold slotOk at h; rw [Bool.and_eq_true] at h; exact h.2
  go_wp2
  go_loopw [7] (fun i wr => ∃ (j q : Nat), 1 ≤ j ∧ j ≤ ks.length + 1 ∧ i = .int .i64 (j : Nat) ∧ wr = w4.drewN q) (fun i _ => ks.length + 1 - (intOf i).toNat)
  case atStart => exact ⟨1, 0, by omega, by omega, rfl, rfl⟩
  case round =>
    obtain ⟨j, q, hj1, hj2, rfl, rfl⟩ := hrel
    by_cases hlj : j < ks.length
    · obtain ⟨j, rfl⟩ : ∃ i, j = i + 1 := ⟨j - 1, by omega⟩
      obtain ⟨b, off, rfl, _, _, x1⟩ := I1.out.at_ (k := j + 1) hlj
      obtain ⟨b2, off2, e2, _, _, x2⟩ := I1.out.at_ (k := j) (by omega)
      simp only [Option.some.injEq, Addr.mk.injEq, and_true] at e2
      obtain ⟨rfl, rfl⟩ := e2
      have hlt := slot_lt HSB.out (j + 1) j (by omega) hlj
      generalize ks.getD (j + 1) 0 = y1 at *
      generalize ks.getD j 0 = y2 at *
      have hge : decide (y1 ≤ y2) = false := by simp; omega
      have ej : IntKind.i64.wrap (((j + 1 : Nat) : Int) - 1) = (j : Int) := by rw [show ((j + 1 : Nat) : Int) - 1 = (j : Int) by omega]; exact IntWalk.i64_in _ (by omega)
      have hji : (j : Int) < (ks.length : Int) := by omega
      clear hlt
      go_upto_region 11 with (fail)
      go_quiet (fail)
      go_wp2
      go_roundw
      case rel => exact ⟨j + 1 + 1, _, by omega, by omega, by go_num, rfl⟩
      case measure => simp [intOf]; omega
    go_wp2
    go_ret
    exact ⟨rfl, drew_bl B.out _⟩

set_option maxRecDepth 20000 in
set_option maxHeartbeats 1000000 in
theorem fnCacheOld (A : Option Addr) (n c : Nat) (A1 : Option Addr) (n1 c1 : Nat) (w : World) (h : CodeIs w A n c) :
    Calls Try.prog 11 #[.slice A n c, .slice A1 n1 c1] w (TruePost w) := by
  have HC := Lib.hid h
  clear h
  by_cases hn : 1048576 < n
  · go_enter Try.func11, Try.ntmps11
    go_wp2
    go_ret
    exact ⟨rfl, Below.refl _ _⟩
  by_cases hn1 : 1048576 < n1
  · go_enter Try.func11, Try.ntmps11
    go_wp2
    go_ret
    exact ⟨rfl, Below.refl _ _⟩
  have B : Hid (Below w.heap.size w w) := Below.refl _ _
  go_enter Try.func11, Try.ntmps11
  go_wp2_with fail
  ((with_reducible refine (DrawCacheKeys _ _ _ _ HC.out).mono ?_); rintro e w1 ⟨A0, k0, c, ep, rfl, hdc, hst, hb⟩)
  replace B := Lib.hid (B.out.trans (hb.mono B.out.size))
  have z1 := hb.size
  have R0 := Lib.hid hst
  have DC := Lib.hid hdc
  clear hst hdc HC
  clear hb
  have hal : Below w1.heap.size w1 (w1.alloc (.cells #[.int .i64 c.ep, .slice A0 c.sl.length k0] 26)) := (Below.refl _ _).alloc (Nat.le_refl _) _
  have V0 := Lib.hid (vr_new (w0 := w.heap.size) R0.out (by omega))
  replace B := Lib.hid (B.out.trans (hal.mono B.out.size))
  have zzV0 := hal.size
  clear hal R0
  obtain ⟨ks, HKS⟩ : ∃ ks, Hid (keysF c ep = ks) := ⟨_, rfl⟩
  obtain ⟨V00, V01, V0f⟩ := two_cells V0.out.1
  go_wp2_with fail
  ((with_reducible refine (keysI HKS.out V0.out.st).mono ?_); rintro e w2 ⟨AI1, kI1, rfl, ho, hb⟩)
  replace V0 := Lib.hid (V0.out.below hb (Nat.le_refl _))
  replace B := Lib.hid (B.out.trans (hb.mono B.out.size))
  have z2 := hb.size
  have I1 := Lib.hid ho.ints
  clear ho
  clear V00 V01 V0f hb
  obtain ⟨V00, V01, V0f⟩ := two_cells V0.out.1
  go_wp2_with fail
  ((with_reducible refine (keysS HKS.out V0.out.st).mono ?_); rintro e w3 ⟨AI2, kI2, rfl, ho, hb⟩)
  replace V0 := Lib.hid (V0.out.below hb (Nat.le_refl _))
  replace I1 := Lib.hid (I1.out.below hb (Nat.le_refl _))
  replace B := Lib.hid (B.out.trans (hb.mono B.out.size))
  have z3 := hb.size
  have I2 := Lib.hid ho.ints
  clear ho
  clear V00 V01 V0f hb
  go_wp2_with fail
  ((with_reducible refine (sameK I1.out I2.out).mono ?_); rintro e w4 ⟨rfl, hb⟩)
  replace V0 := Lib.hid (V0.out.below hb (Nat.le_refl _))
  replace I1 := Lib.hid (I1.out.below hb (Nat.le_refl _))
  replace I2 := Lib.hid (I2.out.below hb (Nat.le_refl _))
  replace B := Lib.hid (B.out.trans (hb.mono B.out.size))
  have z4 := hb.size
  clear hb
  obtain ⟨hp0, hp1⟩ := DC.out.1
  obtain ⟨r, hr, hr0, hr1⟩ : ∃ r : Int, ((n1 : Nat) : Int).tmod 5 = r ∧ 0 ≤ r ∧ r ≤ 4 := ⟨_, rfl, Int.tmod_nonneg _ (by omega), by have := Int.tmod_lt_of_pos ((n1 : Nat) : Int) (show (0 : Int) < 5 by decide); omega⟩
  have ew1 : IntKind.i64.wrap (c.ep + 1) = c.ep + 1 := IntWalk.i64_in _ (by omega)
  have ew2 : IntKind.i64.wrap (c.ep + 1 + r) = c.ep + 1 + r := IntWalk.i64_in _ (by omega)
  have ew3 : IntKind.i64.wrap (c.ep - 3) = c.ep - 3 := IntWalk.i64_in _ (by omega)
  have ew4 : IntKind.i64.wrap (c.ep - 3 - r) = c.ep - 3 - r := IntWalk.i64_in _ (by omega)
  have HN1 := Lib.hid (keys_none (c := c) (e := c.ep + 1 + r) (by omega))
  have HN2 := Lib.hid (keys_none (c := c) (e := c.ep - 3 - r) (by omega))
  obtain ⟨V00, V01, V0f⟩ := two_cells V0.out.1
  go_wp2_with fail
  ((with_reducible refine (keysI HN1.out V0.out.st).mono ?_); rintro e w5 ⟨AI3, kI3, rfl, ho, hb⟩)
  replace V0 := Lib.hid (V0.out.below hb (Nat.le_refl _))
  replace I1 := Lib.hid (I1.out.below hb (Nat.le_refl _))
  replace I2 := Lib.hid (I2.out.below hb (Nat.le_refl _))
  replace B := Lib.hid (B.out.trans (hb.mono B.out.size))
  have z5 := hb.size
  have I3 := Lib.hid ho.ints
  clear ho
  clear V00 V01 V0f hb
  obtain ⟨V00, V01, V0f⟩ := two_cells V0.out.1
  go_wp2_with fail
  ((with_reducible refine (keysI HN2.out V0.out.st).mono ?_); rintro e w6 ⟨AI4, kI4, rfl, ho, hb⟩)
  replace V0 := Lib.hid (V0.out.below hb (Nat.le_refl _))
  replace I1 := Lib.hid (I1.out.below hb (Nat.le_refl _))
  replace I2 := Lib.hid (I2.out.below hb (Nat.le_refl _))
  replace I3 := Lib.hid (I3.out.below hb (Nat.le_refl _))
  replace B := Lib.hid (B.out.trans (hb.mono B.out.size))
  have z6 := hb.size
  have I4 := Lib.hid ho.ints
  clear ho
  clear V00 V01 V0f hb
  go_wp2
  go_ret
  exact ⟨rfl, B.out⟩

end Law8
end Go.Proofs.Ytmmnpmfkpieoiaa
