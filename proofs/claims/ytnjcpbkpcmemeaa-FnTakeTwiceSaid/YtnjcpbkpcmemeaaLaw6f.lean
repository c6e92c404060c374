/-
  The laws of chapter 11 on passing on, by the contracts of the functions that they call: each returns true and writes nothing that was there.
-/
import Derived.Test.YtnjcpbkpcmemeaaIm6f
import Derived.Test.YtnjcpbkpcmemeaaHlp7
import Derived.Test.YtnjcpbkpcmemeaaDr6z
import Derived.Deep.RegionLaw
import Derived.Deep.RegionHeld3
import Derived.Deep.Cut
import Derived.Deep.QuietTactic
import Derived.BigQuiet
namespace Go.Proofs.Ytnjcpbkpcmemeaa
open Go.RowKit
namespace Law6f
open Gm Mm Tm Lm Pm Po Pq Il Rd Hlp5 Hlp6 Hlp7 LawB Sl Mm6 Sp6

theorem flushX (x y : Mx) (all : Bool) (l : List Pld) (A B : Option Addr) (c d lo hi : Nat) (w : World) (hx : MixR lo hi w A x.seen.length c B x.pool.length d x) (h : flushM x all = y ∧ flushL x all = l) :
    Calls Try.prog 21 #[.agg #[.int .i64 x.sec, .slice A x.seen.length c, .slice B x.pool.length d], .bool all] w (FlushB y l w) := by
  obtain ⟨rfl, rfl⟩ := h
  exact (Im6.MixFlushP x all A B c d lo hi w hx).mono fun _ _ h => h.b
theorem flushS (x y : Mx) (all : Bool) (l : List Pld) (A B : Option Addr) (c d lo hi : Nat) (w : World) (hx : MixR lo hi w A x.seen.length c B x.pool.length d x) (h : flushM x all = y ∧ flushL x all = l) :
    Calls Try.prog 55 #[.agg #[.int .i64 x.sec, .slice A x.seen.length c, .slice B x.pool.length d], .bool all] w (FlushB y l w) := by
  obtain ⟨rfl, rfl⟩ := h
  exact Sp6.MixFlush x all A B c d lo hi w hx
theorem same2 {x y : Mx} {l1 h1 l2 h2 n n2 c m m2 d c2 d2 : Nat} {A B A2 B2 : Option Addr} {w : World} (i1 : MixR l1 h1 w A n c B m d y) (i2 : MixR l2 h2 w A2 n2 c2 B2 m2 d2 x) (e : y = x) :
    Calls Try.prog 12 #[.agg #[.int .i64 y.sec, .slice A n c, .slice B m d], .agg #[.int .i64 x.sec, .slice A2 n2 c2, .slice B2 m2 d2]] w (BoolB true w) := by
  subst e
  have e1 := i1.1.1.symm.trans i2.1.1
  have e2 := i1.2.len_.symm.trans i2.2.len_
  subst e1 e2
  exact sameMix y A B A2 B2 _ c _ d c2 d2 l1 h1 l2 h2 w i1 i2
theorem flushed_ok {x : Mx} (h : mixOk x = true) : mixOk ⟨x.sec, x.seen, []⟩ = true := by
  obtain ⟨m1, m2, m3, m4, m5⟩ := mixOk_iff.1 h
  exact mixOk_iff.2 ⟨m1, m2, m3, rfl, by simp⟩
theorem flush_all {x : Mx} (h : mixOk x = true) : flushM x true = ⟨x.sec, x.seen, []⟩ ∧ flushL x true = sortP x.pool := flush_yes h (.inr rfl)
theorem flush_again {x : Mx} (h : mixOk x = true) : flushM ⟨x.sec, x.seen, []⟩ true = ⟨x.sec, x.seen, []⟩ ∧ flushL ⟨x.sec, x.seen, []⟩ true = [] := flush_all (flushed_ok h)
theorem samePoolL {ps : List Pld} {l1 h1 l2 h2 n c d : Nat} {A B : Option Addr} {w : World} (i1 : Pool l1 h1 w A n c ps) (i2 : Pool l2 h2 w B n d ps) : Calls Try.prog 19 #[.slice A n c, .slice B n d] w (BoolB true w) := samePool A B n c d l1 h1 l2 h2 ps w i1 i2




/-- A Bool is returned, and it is true where P holds. -/
def BoolI (P : Prop) (w : World) (e : Ending) (w' : World) : Prop := ∃ r : Bool, e = .returned (.bool r) ∧ (P → r = true) ∧ Below w.heap.size w w'
set_option maxRecDepth 20000 in
theorem samePacketG (p q : Pkt) (A B A2 B2 : Option Addr) (c d c2 d2 l1 h1 l2 h2 l3 h3 l4 h4 : Nat) (w : World) (i1 : Ints l1 h1 w A p.hd.length c p.hd) (i2 : Ints l2 h2 w B p.bd.length d p.bd) (i3 : Ints l3 h3 w A2 q.hd.length c2 q.hd) (i4 : Ints l4 h4 w B2 q.bd.length d2 q.bd) :
    Calls Try.prog 48 #[.agg #[.int .i64 p.el, .slice A p.hd.length c, .int .i64 p.tag, .slice B p.bd.length d], .agg #[.int .i64 q.el, .slice A2 q.hd.length c2, .int .i64 q.tag, .slice B2 q.bd.length d2]] w (BoolI (p = q) w) := by
  have h0 : Below w.heap.size w (w.alloc (.cells #[.int .i64 p.el, .slice A p.hd.length c, .int .i64 p.tag, .slice B p.bd.length d] 34)) := (Below.refl _ _).alloc (Nat.le_refl _) _
  have hb0 := h0.alloc h0.size (.cells #[.int .i64 q.el, .slice A2 q.hd.length c2, .int .i64 q.tag, .slice B2 q.bd.length d2] 34)
  have I1 := Lib.hid (i1.below hb0 (Nat.le_refl _))
  have I2 := Lib.hid (i2.below hb0 (Nat.le_refl _))
  have I3 := Lib.hid (i3.below hb0 (Nat.le_refl _))
  have I4 := Lib.hid (i4.below hb0 (Nat.le_refl _))
  have B0 := Lib.hid hb0
  clear i1 i2 i3 i4 h0 hb0
  by_cases h1 : p.el = q.el
  case neg =>
    have H1 : Hid (¬ p = q) := fun e => h1 (congrArg Pkt.el e)
    have e1 : (p.el == q.el) = false := by simpa using h1
    clear h1
    go_enter Try.func48, Try.ntmps48
    go_wp2
    go_ret
    exact ⟨false, rfl, fun e => absurd e H1.out, B0.out⟩
  have e1 : (p.el == q.el) = true := by simpa using h1
  clear h1
  by_cases h2 : p.tag = q.tag
  case neg =>
    have H1 : Hid (¬ p = q) := fun e => h2 (congrArg Pkt.tag e)
    have e2 : (p.tag == q.tag) = false := by simpa using h2
    clear h2
    go_enter Try.func48, Try.ntmps48
    go_wp2
    go_ret
    exact ⟨false, rfl, fun e => absurd e H1.out, B0.out⟩
  have e2 : (p.tag == q.tag) = true := by simpa using h2
  clear h2
  by_cases h3 : p.hd = q.hd
  case neg =>
    have H1 : Hid (¬ p = q) := fun e => h3 (congrArg Pkt.hd e)
    have H3 := Lib.hid h3
    clear h3
    go_enter Try.func48, Try.ntmps48
    go_wp2_with fail
    ((with_reducible refine (Hlp.sameInts _ _ _ _ _ _ _ _ _ _ _ _ _ I1.out I3.out).mono ?_); rintro e w1 ⟨rfl, nn, rfl⟩)
    rw [decide_eq_false H3.out]
    go_wp2
    go_ret
    exact ⟨false, rfl, fun e => absurd e H1.out, B0.out.os, B0.out.tape, B0.out.output, B0.out.size, B0.out.block⟩
  have H3 := Lib.hid h3
  have H4 : Hid (p = q → p.bd = q.bd) := fun e => congrArg Pkt.bd e
  clear h3
  go_enter Try.func48, Try.ntmps48
  go_wp2_with fail
  ((with_reducible refine (Hlp.sameInts _ _ _ _ _ _ _ _ _ _ _ _ _ I1.out I3.out).mono ?_); rintro e w1 ⟨rfl, nn, rfl⟩)
  rw [decide_eq_true H3.out]
  go_wp2_with fail
  ((with_reducible refine (Hlp.sameInts _ _ _ _ _ _ _ _ _ _ _ _ _ (I2.out.drewN _) (I4.out.drewN _)).mono ?_); rintro e w1 ⟨rfl, nm, rfl⟩)
  generalize hbb : decide (p.bd = q.bd) = r at *
  have HBB := Lib.hid hbb
  clear hbb
  go_wp2
  go_ret
  exact ⟨r, rfl, fun e => by rw [← HBB.out]; exact decide_eq_true (H4.out e), B0.out.os, B0.out.tape, B0.out.output, B0.out.size, B0.out.block⟩
set_option maxRecDepth 20000 in
theorem samePeeledG (p q : Pld) (A B A2 B2 : Option Addr) (c d c2 d2 l1 h1 l2 h2 l3 h3 l4 h4 : Nat) (w : World) (i1 : Ints l1 h1 w A p.pk.hd.length c p.pk.hd) (i2 : Ints l2 h2 w B p.pk.bd.length d p.pk.bd) (i3 : Ints l3 h3 w A2 q.pk.hd.length c2 q.pk.hd) (i4 : Ints l4 h4 w B2 q.pk.bd.length d2 q.pk.bd) :
    Calls Try.prog 18 #[.agg #[.int .i64 p.kind, .int .i64 p.next, .int .i64 p.pk.el, .slice A p.pk.hd.length c, .int .i64 p.pk.tag, .slice B p.pk.bd.length d], .agg #[.int .i64 q.kind, .int .i64 q.next, .int .i64 q.pk.el, .slice A2 q.pk.hd.length c2, .int .i64 q.pk.tag, .slice B2 q.pk.bd.length d2]] w (BoolI (p = q) w) := by
  have h0 : Below w.heap.size w (w.alloc (.cells #[.int .i64 p.kind, .int .i64 p.next, .int .i64 p.pk.el, .slice A p.pk.hd.length c, .int .i64 p.pk.tag, .slice B p.pk.bd.length d] 40)) := (Below.refl _ _).alloc (Nat.le_refl _) _
  have hb0 := h0.alloc h0.size (.cells #[.int .i64 q.kind, .int .i64 q.next, .int .i64 q.pk.el, .slice A2 q.pk.hd.length c2, .int .i64 q.pk.tag, .slice B2 q.pk.bd.length d2] 40)
  have I1 := Lib.hid (i1.below hb0 (Nat.le_refl _))
  have I2 := Lib.hid (i2.below hb0 (Nat.le_refl _))
  have I3 := Lib.hid (i3.below hb0 (Nat.le_refl _))
  have I4 := Lib.hid (i4.below hb0 (Nat.le_refl _))
  have B0 := Lib.hid hb0
  clear i1 i2 i3 i4 h0 hb0
  by_cases h1 : p.kind = q.kind
  case neg =>
    have H1 : Hid (¬ p = q) := fun e => h1 (congrArg Pld.kind e)
    have e1 : (p.kind == q.kind) = false := by simpa using h1
    clear h1
    go_enter Try.func18, Try.ntmps18
    go_wp2
    go_ret
    exact ⟨false, rfl, fun e => absurd e H1.out, B0.out⟩
  have e1 : (p.kind == q.kind) = true := by simpa using h1
  clear h1
  by_cases h2 : p.next = q.next
  case neg =>
    have H1 : Hid (¬ p = q) := fun e => h2 (congrArg Pld.next e)
    have e2 : (p.next == q.next) = false := by simpa using h2
    clear h2
    go_enter Try.func18, Try.ntmps18
    go_wp2
    go_ret
    exact ⟨false, rfl, fun e => absurd e H1.out, B0.out⟩
  have e2 : (p.next == q.next) = true := by simpa using h2
  clear h2
  have H4 : Hid (p = q → p.pk = q.pk) := fun e => congrArg Pld.pk e
  go_enter Try.func18, Try.ntmps18
  go_wp2_with fail
  ((with_reducible refine (samePacketG p.pk q.pk _ _ _ _ _ _ _ _ _ _ _ _ _ _ _ _ _ I1.out I2.out I3.out I4.out).mono ?_); rintro e w1 ⟨r, rfl, hr, hb⟩)
  have B1 := Lib.hid (B0.out.trans (hb.mono B0.out.size))
  have HR := Lib.hid hr
  clear hb hr
  go_wp2
  go_ret
  exact ⟨r, rfl, fun e => HR.out (H4.out e), B1.out⟩
theorem insP_perm (x : Pld) (out : List Pld) : (insP x out).Perm (x :: out) := by
  unfold insP
  refine List.perm_middle.trans ?_
  rw [List.take_append_drop]
theorem sortP_perm (l : List Pld) : (sortP l).Perm l := by
  suffices ∀ (l out : List Pld), (l.foldl (fun out x => insP x out) out).Perm (l ++ out) by simpa [sortP] using this l []
  intro l
  induction l with
  | nil => intro out; exact List.Perm.refl _
  | cons x l ih =>
    intro out
    rw [List.foldl_cons]
    refine (ih _).trans ?_
    refine (List.Perm.append_left l (insP_perm x out)).trans ?_
    exact List.perm_middle
theorem flushL_or (x : Mx) (v : Bool) : flushL x v = [] ∨ flushL x v = sortP x.pool := by
  unfold flushL
  cases mixOk x && !(decide (x.pool.length < 2) && !v)
  · exact .inl rfl
  · exact .inr rfl
/-- Each waiting packet stands somewhere in what is passed on. -/
theorem flushL_has {x : Mx} {v : Bool} {i : Nat} (h : 0 < (flushL x v).length) (hi : i < x.pool.length) : ∃ j, j < (flushL x v).length ∧ pldAt (flushL x v) j = pldAt x.pool i := by
  rcases flushL_or x v with e | e
  · rw [e] at h; simp at h
  · rw [e]
    have hm : x.pool[i] ∈ sortP x.pool := (sortP_perm x.pool).mem_iff.2 (List.getElem_mem hi)
    obtain ⟨j, hj, e2⟩ := List.getElem_of_mem hm
    refine ⟨j, hj, ?_⟩
    unfold pldAt
    rw [List.getD_eq_getElem?_getD, List.getElem?_eq_getElem hj, List.getD_eq_getElem?_getD, List.getElem?_eq_getElem hi, Option.getD_some, Option.getD_some, e2]


theorem cell_lt {w : World} {b o : Nat} {v : Value} (h : w.cell? ⟨b, o, none⟩ = some v) : b < w.heap.size := by
  by_cases hb : b < w.heap.size
  · exact hb
  · have : w.heap[b]? = none := Array.getElem?_eq_none (by omega)
    simp [World.cell?, this] at h
/-- What is passed on is in order. -/
theorem sortP_sorted (ps : List Pld) : (sortP ps).Pairwise fun a b => ¬ Lt b a := by
  obtain ⟨qs, h1, h2, h3⟩ := Hp6.sort_deco (ps.map fun p => (⟨p, none, 0, none, 0, 0, 0⟩ : Slot))
  have e : (ps.map fun p => (⟨p, none, 0, none, 0, 0, 0⟩ : Slot)).map (fun s => s.p) = ps := by rw [List.map_map]; exact List.map_id' ps
  rw [e] at h3
  rw [← h3]
  refine List.pairwise_map.2 (h2.imp fun hab hlt => hab (.inl hlt))
theorem flushL_sorted {x : Mx} {v : Bool} {t : Nat} (h : t + 1 < (flushL x v).length) : ¬ Lt (pldAt (flushL x v) (t + 1)) (pldAt (flushL x v) t) := by
  rcases flushL_or x v with e | e
  · rw [e] at h; simp at h
  · rw [e] at h ⊢
    have hp := List.pairwise_iff_getElem.1 (sortP_sorted x.pool) t (t + 1) (by omega) h (by omega)
    unfold pldAt
    rw [List.getD_eq_getElem?_getD, List.getElem?_eq_getElem h, List.getD_eq_getElem?_getD, List.getElem?_eq_getElem (by omega : t < (sortP x.pool).length), Option.getD_some, Option.getD_some]
    exact hp
theorem not_lt_cases {p q : Pld} (h : ¬ Lt q p) : p.kind < q.kind ∨ (p.kind = q.kind ∧ (p.next < q.next ∨ (p.next = q.next ∧ (p.pk.el < q.pk.el ∨ (p.pk.el = q.pk.el ∧ p.pk.tag ≤ q.pk.tag))))) := by unfold Lt at h; omega


end Law6f
end Go.Proofs.Ytnjcpbkpcmemeaa
