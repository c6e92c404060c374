/-
  Contracts of the program's chapter 21: valid directories, places at points.
-/
import Derived.Test.YtfnbjojaflloaabIm9b
namespace Go.Proofs.Ytfnbjojaflloaab
open Go.RowKit Go.Shelf
namespace Im9
open Il Sl Gm Cm Ec Dm Sp9 Sg
attribute [local go_sem] Oper.semAt_some

section
variable {b lo hi q : Nat} {w wr w2 : World} {A : Option Addr} {n k : Nat} {ep : Int} {es : List En}
theorem drel_turn (h : DRel b lo hi w wr A n k ep es) (hg : wr.grownBy w2 (some q)) (h1 : b ≠ q) (h2 : hi ≤ q) (h3 : w.heap.size ≤ q) : DRel b lo hi w w2 A n k ep es :=
  ⟨(hg.block b h.1.lt (by simpa using h1)).trans h.1, h.2.1.grown hg fun z hz => by cases hz; exact .inr h2, h.2.2.grown hg h.2.2.size fun z hz => by cases hz; exact h3⟩
end
theorem boxed_below {w w' : World} {b : Nat} {t : TypeId} {v : Value} (h : Boxed w b t v) (hb : Below w.heap.size w w') : Boxed w' b t v := (hb.block b h.lt).trans h

/-- What the searches of DirectoryValid keep: the directory, and the name in the box behind it. -/
def VSt (lo : Nat) (w : World) (A : Option Addr) (n k : Nat) (ep : Int) (es : List En) (l : Int) (W : World) : Prop :=
  DRel w.heap.size lo w.heap.size w W A n k ep es ∧ Boxed W (w.heap.size + 1) 81 (.int .i64 l)
theorem eg39 : ∀ args w, (callFunc 67 args).run Try.prog w = .ok (.enter 67 args) w := enters_of Try.func67 (by kernel_rfl) rfl
theorem eg40 : ∀ args w, (callFunc 68 args).run Try.prog w = .ok (.enter 68 args) w := enters_of Try.func68 (by kernel_rfl) rfl
theorem anyInvalid (lo : Nat) (A : Option Addr) (n k : Nat) (ep : Int) (es : List En) (l : Int) (w W : World) (h : VSt lo w A n k ep es l W) :
    Calls Try.prog 66 #[.slice A n k, .func (.func 67) #[] #[]] W (CtPost n (fun i => !okE (enAt es i)) (fun _ => VSt lo w A n k ep es l)) :=
  containsFunc 67 #[] A n k lo w.heap.size es W (fun _ => VSt lo w A n k ep es l) (fun i => !okE (enAt es i)) h.1.ens.cap_ h.1.ens.max_ eg39 (fun _ _ h => h.1.ens) h fun _ V _ hV _ => (invalid _ V).mono fun _ _ ⟨he, hb⟩ => ⟨he, hV.1.below hb, boxed_below hV.2 hb⟩
theorem anyBroken (lo : Nat) (A : Option Addr) (n k : Nat) (ep : Int) (es : List En) (w W : World) (h : VSt lo w A n k ep es (-1) W) :
    Calls Try.prog 66 #[.slice A n k, .func (.func 68) #[.pointer (some ⟨w.heap.size + 1, 0, none⟩)] #[]] W (CtPost n (brk es) (fun i => VSt lo w A n k ep es (lastOf es i))) :=
  containsFunc 68 #[.pointer (some ⟨w.heap.size + 1, 0, none⟩)] A n k lo w.heap.size es W (fun i => VSt lo w A n k ep es (lastOf es i)) (brk es) h.1.ens.cap_ h.1.ens.max_ eg40 (fun _ _ h => h.1.ens) h
    fun j V _ hV _ => (brokenBy (enAt es j) _ _ V hV.2).mono fun _ _ ⟨he, hb, hg⟩ => ⟨he, drel_turn hV.1 hg (by omega) (by omega) (by omega), hb⟩
set_option maxRecDepth 20000 in
set_option maxHeartbeats 1000000 in
theorem DirectoryValid (ep : Int) (es : List En) (A : Option Addr) (n k lo hi : Nat) (w : World) (hx : Ens lo hi w A n k es) :
    Calls Try.prog 48 #[.agg #[.int .i64 ep, .slice A n k]] w (BoolB (dirOk ep es) w) := by
  have hk1 := hx.max_
  have hk2 := hx.cap_
  have HL := Lib.hid hx.len_
  have h0 := drel_new (hx.top (Nat.le_refl lo)) ep
  have hz1 : (w.alloc (.cells #[.int .i64 ep, .slice A n k] 40)).heap.size = w.heap.size + 1 := by simp
  have hbx : Boxed ((w.alloc (.cells #[.int .i64 ep, .slice A n k] 40)).alloc (.cells #[.int .i64 (-1)] 81)) (w.heap.size + 1) 81 (.int .i64 (-1)) := by
    have := Boxed.new (w.alloc (.cells #[.int .i64 ep, .slice A n k] 40)) 81 (.int .i64 (-1))
    rwa [hz1] at this
  have HV0 : Hid (VSt lo w A n k ep es (-1) ((w.alloc (.cells #[.int .i64 ep, .slice A n k] 40)).alloc (.cells #[.int .i64 (-1)] 81))) := ⟨h0.alloc _, hbx⟩
  clear hx h0 hbx hz1
  obtain ⟨z0, z1, zf⟩ := HV0.out.1.box.cells
  go_enter Try.func48, Try.ntmps48
  go_wp2_with fail
  ((with_reducible refine (epochValid ep _).mono ?_); rintro e w1 ⟨rfl, rfl⟩)
  cases he : epB ep
  · have HF := Lib.hid (dirOk_noE (es := es) he)
    go_wp2
    go_ret
    rw [HF.out]
    exact ⟨rfl, HV0.out.1.bel⟩
  by_cases h6 : n ≤ 6
  · have d6 : decide ((n : Int) ≤ 6) = true := by simp; omega
    have HE := Lib.hid he
    have H6 : Hid (es.length ≤ 6) := by show _ ≤ _; rw [HL.out]; exact h6
    clear he h6
    go_wp2_with fail
    (with_reducible refine (anyInvalid lo A n k ep es (-1) w _ HV0.out).mono ?_)
    rintro e w1 (⟨rfl, h1, h2⟩ | ⟨j, h1, rfl, h2, h3, h4⟩)
    · have HI : Hid (∀ i, i < es.length → okE (enAt es i) = true) := fun i hi => by
        have := h1 i (by rw [← HL.out]; exact hi)
        simpa using this
      have HV1 := Lib.hid h2
      clear h1 h2 HV0 z0 z1 zf
      obtain ⟨z0, z1, zf⟩ := HV1.out.1.box.cells
      go_wp2_with fail
      (with_reducible refine (anyBroken lo A n k ep es w _ HV1.out).mono ?_)
      rintro e w2 (⟨rfl, h1, h2⟩ | ⟨j, h1, rfl, h2, h3, h4⟩)
      · have HF := Lib.hid (dirOk_yes HE.out H6.out HI.out fun i hi => h1 i (by rw [← HL.out]; exact hi))
        have HB := Lib.hid h2.1.bel
        clear h1 h2 HV1 z0 z1 zf
        go_wp2
        go_ret
        rw [HF.out]
        exact ⟨rfl, HB.out⟩
      · have HF := Lib.hid (dirOk_noB (ep := ep) HI.out (i := j) (by rw [HL.out]; exact h1) h2)
        have HB := Lib.hid h4.1.bel
        clear h1 h2 h3 h4 HV1 z0 z1 zf
        go_wp2
        go_ret
        rw [HF.out]
        exact ⟨rfl, HB.out⟩
    · have HF := Lib.hid (dirOk_noI (ep := ep) (es := es) (i := j) (by rw [HL.out]; exact h1) (by simpa using h2))
      have HB := Lib.hid h4.1.bel
      clear h1 h2 h3 h4 HV0 z0 z1 zf
      go_wp2
      go_ret
      rw [HF.out]
      exact ⟨rfl, HB.out⟩
  · have HF := Lib.hid (dirOk_noL (ep := ep) (es := es) (by rw [HL.out]; exact h6))
    have d6 : decide ((n : Int) ≤ 6) = false := by simp; omega
    clear h6
    go_wp2
    go_ret
    rw [HF.out]
    exact ⟨rfl, HV0.out.1.bel⟩

end Im9
end Go.Proofs.Ytfnbjojaflloaab
