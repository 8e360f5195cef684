/- Three caches beside each other: the project's, another one, and the document's. -/
import Derived.Test.YtbeohfmikpbkhaaCoS
import Derived.Test.YtbeohfmikpbkhaaCact
namespace Go.Proofs.Ytbeohfmikpbkhaa.Ck
set_option linter.unusedVariables false
set_option linter.unusedSimpArgs false
open Go.RowKit Go.Maps Lift Ik
structure Ap (w0 w : World) (Q Z : Nat → Prop) : Prop where
  ge : ∀ k, Z k → w0.heap.size ≤ k
  lt : ∀ k, Z k → k < w.heap.size
  off : ∀ k, Z k → ¬ Q k
structure Tr (w0 w : World) (g go gr n1 n2 : Nat) (Q Z Zo Zr : Nat → Prop) (r ro r2 : R) : Prop where
  c : OC w g Z n1 r
  o : OC w go Zo 50 ro
  d : RC w gr Zr n2 r2
  gc : ∀ k, Z k → w0.heap.size ≤ k ∧ ¬ Q k
  gg : ∀ k, Zo k → w0.heap.size ≤ k ∧ ¬ Q k
  gd : ∀ k, Zr k → w0.heap.size ≤ k ∧ ¬ Q k
  co : ∀ k, Z k → ¬ Zo k
  cd : ∀ k, Z k → ¬ Zr k
  od : ∀ k, Zo k → ¬ Zr k
  q : ∀ k, Q k → k < w.heap.size ∧ w0.heap.size ≤ k
  be : Below w0.heap.size w0 w
def Tri (w0 w : World) (g go gr n1 n2 : Nat) (Q : Nat → Prop) (r ro r2 : R) : Prop := ∃ Z Zo Zr, Tr w0 w g go gr n1 n2 Q Z Zo Zr r ro r2
section
variable {w0 w w' : World} {g go gr n1 n2 : Nat} {Q Z Zo Zr : Nat → Prop} {r ro r2 : R}
theorem Tri.be (h : Tri w0 w g go gr n1 n2 Q r ro r2) : Below w0.heap.size w0 w := by obtain ⟨Z, Zo, Zr, h⟩ := h; exact h.be
theorem Tri.inv (h : Tri w0 w g go gr n1 n2 Q r ro r2) : Inv n1 r := by obtain ⟨Z, Zo, Zr, h⟩ := h; exact h.c.inv
theorem Tri.used_le (h : Tri w0 w g go gr n1 n2 Q r ro r2) : used r2.1 ≤ 100000 := by obtain ⟨Z, Zo, Zr, h⟩ := h; exact h.d.used_le
theorem Tri.qlt (h : Tri w0 w g go gr n1 n2 Q r ro r2) {k : Nat} (hk : Q k) : k < w.heap.size := by obtain ⟨Z, Zo, Zr, h⟩ := h; exact (h.q k hk).1
theorem Tr.below (h : Tr w0 w g go gr n1 n2 Q Z Zo Zr r ro r2) (hb : Below w.heap.size w w') : Tr w0 w' g go gr n1 n2 Q Z Zo Zr r ro r2 :=
  ⟨h.c.below hb, h.o.below hb, h.d.below hb, h.gc, h.gg, h.gd, h.co, h.cd, h.od, fun k hk => ⟨Nat.lt_of_lt_of_le (h.q k hk).1 hb.size, (h.q k hk).2⟩, h.be.trans (hb.mono h.be.size)⟩
theorem Tri.below (h : Tri w0 w g go gr n1 n2 Q r ro r2) (hb : Below w.heap.size w w') : Tri w0 w' g go gr n1 n2 Q r ro r2 := by
  obtain ⟨Z, Zo, Zr, h⟩ := h
  exact ⟨Z, Zo, Zr, h.c.below hb, h.o.below hb, h.d.below hb, h.gc, h.gg, h.gd, h.co, h.cd, h.od, fun k hk => ⟨Nat.lt_of_lt_of_le (h.q k hk).1 hb.size, (h.q k hk).2⟩, h.be.trans (hb.mono h.be.size)⟩
theorem Tri.stay (h : Tri w0 w g go gr n1 n2 Q r ro r2) (hb : Below w.heap.size w w') : Stay Q w w' := by
  obtain ⟨Z, Zo, Zr, h⟩ := h
  exact fun k hk => hb.block k (h.q k hk).1
theorem Tri.fewer {S : Nat → Prop} (h : Tri w0 w g go gr n1 n2 Q r ro r2) (hS : ∀ k, S k → Q k) : Tri w0 w g go gr n1 n2 S r ro r2 := by
  obtain ⟨Z, Zo, Zr, h⟩ := h
  exact ⟨Z, Zo, Zr, h.c, h.o, h.d, fun k hk => ⟨(h.gc k hk).1, fun hs => (h.gc k hk).2 (hS k hs)⟩, fun k hk => ⟨(h.gg k hk).1, fun hs => (h.gg k hk).2 (hS k hs)⟩, fun k hk => ⟨(h.gd k hk).1, fun hs => (h.gd k hk).2 (hS k hs)⟩, h.co, h.cd, h.od, fun k hk => h.q k (hS k hk), h.be⟩
theorem Tri.none (h : Tri w0 w g go gr n1 n2 Q r ro r2) : Tri w0 w g go gr n1 n2 (fun _ => False) r ro r2 := h.fewer fun _ h => h.elim
/-- More blocks of the call's own. -/
theorem Tri.more {S : Nat → Prop} (h : Tri w0 w g go gr n1 n2 Q r ro r2) (hb : Below w.heap.size w w') (hS : ∀ k, S k → Q k ∨ (w.heap.size ≤ k ∧ k < w'.heap.size)) : Tri w0 w' g go gr n1 n2 S r ro r2 := by
  obtain ⟨Z, Zo, Zr, h⟩ := h
  have off : ∀ k, k < w.heap.size → ¬ Q k → ¬ S k := fun k h1 h2 h3 => (hS k h3).elim h2 fun h4 => Nat.not_lt_of_le h4.1 h1
  refine ⟨Z, Zo, Zr, h.c.below hb, h.o.below hb, h.d.below hb, fun k hk => ⟨(h.gc k hk).1, off k (h.c.lt k hk) (h.gc k hk).2⟩, fun k hk => ⟨(h.gg k hk).1, off k (h.o.lt k hk) (h.gg k hk).2⟩, fun k hk => ⟨(h.gd k hk).1, off k (h.d.lt k hk) (h.gd k hk).2⟩, h.co, h.cd, h.od, fun k hk => ?_, h.be.trans (hb.mono h.be.size)⟩
  rcases hS k hk with h1 | h1
  · exact ⟨Nat.lt_of_lt_of_le (h.q k h1).1 hb.size, (h.q k h1).2⟩
  · exact ⟨h1.2, Nat.le_trans h.be.size h1.1⟩
/-- A block of the call's own is written. -/
theorem Tri.set (h : Tri w0 w g go gr n1 n2 Q r ro r2) {p : Addr} (hp : Q p.block) (v : Value) : Tri w0 (w.setCell p v) g go gr n1 n2 Q r ro r2 := by
  obtain ⟨Z, Zo, Zr, h⟩ := h
  have hs : (w.setCell p v).heap.size = w.heap.size := by simp [World.setCell]
  have off : ∀ k, ¬ Q k → (w.setCell p v).heap[k]? = w.heap[k]? := fun k hk => heap_setCell_other w p k v fun e => hk (e ▸ hp)
  exact ⟨Z, Zo, Zr, h.c.same (fun k hk => off k (h.gc k hk).2) (Nat.le_of_eq hs.symm), h.o.same (fun k hk => off k (h.gg k hk).2) (Nat.le_of_eq hs.symm), h.d.same (fun k hk => off k (h.gd k hk).2) (Nat.le_of_eq hs.symm), h.gc, h.gg, h.gd, h.co, h.cd, h.od,
    fun k hk => by rw [hs]; exact h.q k hk, h.be.setCell (h.q _ hp).2 v⟩
theorem grow_off {Z Z' X : Nat → Prop} (h3 : ∀ k, Z' k → Z k ∨ w.heap.size ≤ k) (hZ : ∀ k, Z k → ¬ X k) (hX : ∀ k, X k → k < w.heap.size) : ∀ k, Z' k → ¬ X k :=
  fun k hk hx => (h3 k hk).elim (fun h => hZ k h hx) fun h => Nat.not_lt_of_le h (hX k hx)
theorem Tr.wentC {r' : R} (h : Tr w0 w g go gr n1 n2 Q Z Zo Zr r ro r2) (hw : OWent w g Z n1 r' w') : Tri w0 w' g go gr n1 n2 Q r' ro r2 ∧ Stay Q w w' := by
  obtain ⟨Z', h1, h2, h3⟩ := hw
  refine ⟨⟨Z', Zo, Zr, h1, h.o.keep h2 fun k hk hz => h.co k hz hk, h.d.keep h2 fun k hk hz => h.cd k hz hk, fun k hk => ⟨(h3 k hk).elim (fun h4 => (h.gc k h4).1) fun h4 => Nat.le_trans h.be.size h4, grow_off h3 (fun k hk => (h.gc k hk).2) (fun k hk => (h.q k hk).1) k hk⟩, h.gg, h.gd,
    grow_off h3 h.co h.o.lt, grow_off h3 h.cd h.d.lt, h.od, fun k hk => ⟨Nat.lt_of_lt_of_le (h.q k hk).1 h2.size, (h.q k hk).2⟩, h.be.trans (h2.below h.be.size fun k hk => (h.gc k hk).1)⟩, fun k hk => h2.block k (h.q k hk).1 fun hz => (h.gc k hz).2 hk⟩
theorem Tr.wentO {r' : R} (h : Tr w0 w g go gr n1 n2 Q Z Zo Zr r ro r2) (hw : OWent w go Zo 50 r' w') : Tri w0 w' g go gr n1 n2 Q r r' r2 ∧ Stay Q w w' := by
  obtain ⟨Z', h1, h2, h3⟩ := hw
  have co' : ∀ k, Zo k → ¬ Z k := fun k hk hz => h.co k hz hk
  refine ⟨⟨Z, Z', Zr, h.c.keep h2 h.co, h1, h.d.keep h2 fun k hk hz => h.od k hz hk, h.gc, fun k hk => ⟨(h3 k hk).elim (fun h4 => (h.gg k h4).1) fun h4 => Nat.le_trans h.be.size h4, grow_off h3 (fun k hk => (h.gg k hk).2) (fun k hk => (h.q k hk).1) k hk⟩, h.gd,
    fun k hk hz => grow_off h3 co' h.c.lt k hz hk, h.cd, grow_off h3 h.od h.d.lt, fun k hk => ⟨Nat.lt_of_lt_of_le (h.q k hk).1 h2.size, (h.q k hk).2⟩, h.be.trans (h2.below h.be.size fun k hk => (h.gg k hk).1)⟩, fun k hk => h2.block k (h.q k hk).1 fun hz => (h.gg k hz).2 hk⟩
theorem Tr.wentD {r' : R} (h : Tr w0 w g go gr n1 n2 Q Z Zo Zr r ro r2) (hw : CWent w gr Zr n2 r' w') : Tri w0 w' g go gr n1 n2 Q r ro r' ∧ Stay Q w w' := by
  obtain ⟨Z', h1, h2, h3⟩ := hw
  have cd' : ∀ k, Zr k → ¬ Z k := fun k hk hz => h.cd k hz hk
  have od' : ∀ k, Zr k → ¬ Zo k := fun k hk hz => h.od k hz hk
  refine ⟨⟨Z, Zo, Z', h.c.keep h2 h.cd, h.o.keep h2 h.od, h1, h.gc, h.gg, fun k hk => ⟨(h3 k hk).elim (fun h4 => (h.gd k h4).1) fun h4 => Nat.le_trans h.be.size h4, grow_off h3 (fun k hk => (h.gd k hk).2) (fun k hk => (h.q k hk).1) k hk⟩,
    h.co, fun k hk hz => grow_off h3 cd' h.c.lt k hz hk, fun k hk hz => grow_off h3 od' h.o.lt k hz hk, fun k hk => ⟨Nat.lt_of_lt_of_le (h.q k hk).1 h2.size, (h.q k hk).2⟩, h.be.trans (h2.below h.be.size fun k hk => (h.gd k hk).1)⟩, fun k hk => h2.block k (h.q k hk).1 fun hz => (h.gd k hz).2 hk⟩
/-- Bytes in new memory beside it. -/
def Plus (w w' : World) (Q : Nat → Prop) : Nat → Prop := fun k => Q k ∨ (w.heap.size ≤ k ∧ k < w'.heap.size)
theorem tri_got (h : Tri w0 w g go gr n1 n2 Q r ro r2) (f a : Int) (hf : wf64 f) (ha : wf64 a) (hp : pinned r.1 + 1 ≤ 1000) :
    Calls Try.prog (11) #[pt g, .int .i64 f, .int .i64 a] w fun e w' => ∃ A c bs, bs = (getC r f a).2.getD [] ∧ e = .returned (.tuple #[.slice A bs.length c, .bool (getC r f a).2.isSome]) ∧
      LiesP w' (Plus w w' Q) A (bs.map vb) ∧ Tri w0 w' g go gr n1 n2 (Plus w w' Q) (getC r f a).1 ro r2 ∧ Stay Q w w' := by
  obtain ⟨Z, Zo, Zr, h⟩ := h
  refine (get_any f a hf ha h.c hp).mono ?_
  rintro e w' ⟨A, c, bs, h1, h2, h3, h4, h5⟩
  have off : ∀ k, k < w.heap.size → ¬ Q k → ¬ Plus w w' Q k := fun k h1 h2 h3 => h3.elim h2 fun h4 => Nat.not_lt_of_le h4.1 h1
  refine ⟨A, c, bs, h1, h2, (LiesP.of_own h3).later (fun _ _ => rfl) fun k hk => .inr ⟨hk.1, hk.2.1⟩, ⟨Z, Zo, Zr, h4, h.o.keep h5 fun k hk hz => h.co k hz hk, h.d.keep h5 fun k hk hz => h.cd k hz hk,
    fun k hk => ⟨(h.gc k hk).1, off k (h.c.lt k hk) (h.gc k hk).2⟩, fun k hk => ⟨(h.gg k hk).1, off k (h.o.lt k hk) (h.gg k hk).2⟩, fun k hk => ⟨(h.gd k hk).1, off k (h.d.lt k hk) (h.gd k hk).2⟩, h.co, h.cd, h.od, fun k hk => ?_, h.be.trans (h5.below h.be.size fun k hk => (h.gc k hk).1)⟩, fun k hk => h5.block k (h.q k hk).1 fun hz => (h.gc k hz).2 hk⟩
  rcases hk with h1 | h1
  · exact ⟨Nat.lt_of_lt_of_le (h.q k h1).1 h5.size, (h.q k h1).2⟩
  · exact ⟨h1.2, Nat.le_trans h.be.size h1.1⟩
theorem tri_rgot (h : Tri w0 w g go gr n1 n2 Q r ro r2) (f a : Int) (hp : pinned r2.1 + 1 ≤ 1000) :
    Calls Try.prog (12) #[pt gr, .int .i64 f, .int .i64 a] w fun e w' => ∃ A c bs, bs = (getC r2 f a).2.getD [] ∧ e = .returned (.tuple #[.slice A bs.length c, .bool (getC r2 f a).2.isSome]) ∧
      LiesP w' (Plus w w' Q) A (bs.map vb) ∧ Tri w0 w' g go gr n1 n2 (Plus w w' Q) r ro (getC r2 f a).1 ∧ Stay Q w w' := by
  obtain ⟨Z, Zo, Zr, h⟩ := h
  refine (rget_any f a h.d hp).mono ?_
  rintro e w' ⟨A, c, bs, h1, h2, h3, h4, h5⟩
  have off : ∀ k, k < w.heap.size → ¬ Q k → ¬ Plus w w' Q k := fun k h1 h2 h3 => h3.elim h2 fun h4 => Nat.not_lt_of_le h4.1 h1
  refine ⟨A, c, bs, h1, h2, (LiesP.of_own h3).later (fun _ _ => rfl) fun k hk => .inr ⟨hk.1, hk.2.1⟩, ⟨Z, Zo, Zr, h.c.keep h5 h.cd, h.o.keep h5 h.od, h4,
    fun k hk => ⟨(h.gc k hk).1, off k (h.c.lt k hk) (h.gc k hk).2⟩, fun k hk => ⟨(h.gg k hk).1, off k (h.o.lt k hk) (h.gg k hk).2⟩, fun k hk => ⟨(h.gd k hk).1, off k (h.d.lt k hk) (h.gd k hk).2⟩, h.co, h.cd, h.od, fun k hk => ?_, h.be.trans (h5.below h.be.size fun k hk => (h.gd k hk).1)⟩, fun k hk => h5.block k (h.q k hk).1 fun hz => (h.gd k hz).2 hk⟩
  rcases hk with h1 | h1
  · exact ⟨Nat.lt_of_lt_of_le (h.q k h1).1 h5.size, (h.q k h1).2⟩
  · exact ⟨h1.2, Nat.le_trans h.be.size h1.1⟩
theorem tri_rel (h : Tri w0 w g go gr n1 n2 Q r ro r2) (f a : Int) (hf : wf64 f) (ha : wf64 a) :
    Calls Try.prog (14) #[pt g, .int .i64 f, .int .i64 a] w fun e w' => e = .returned (.bool (relC r f a).2) ∧ Tri w0 w' g go gr n1 n2 Q (relC r f a).1 ro r2 ∧ Stay Q w w' := by
  obtain ⟨Z, Zo, Zr, h⟩ := h
  refine (rel_any f a hf ha h.c).mono ?_
  rintro e w' ⟨rfl, hw⟩
  exact ⟨rfl, h.wentC hw⟩
theorem tri_rrel (h : Tri w0 w g go gr n1 n2 Q r ro r2) (f a : Int) :
    Calls Try.prog (15) #[pt gr, .int .i64 f, .int .i64 a] w fun e w' => e = .returned (.bool (relC r2 f a).2) ∧ Tri w0 w' g go gr n1 n2 Q r ro (relC r2 f a).1 ∧ Stay Q w w' := by
  obtain ⟨Z, Zo, Zr, h⟩ := h
  refine (rrel_any f a h.d).mono ?_
  rintro e w' ⟨rfl, hw⟩
  exact ⟨rfl, h.wentD hw⟩
theorem tri_drop (h : Tri w0 w g go gr n1 n2 Q r ro r2) (f : Int) :
    Calls Try.prog (16) #[pt g, .int .i64 f] w fun e w' => e = .returned (.int .i64 ((dropC r f).2 : Nat)) ∧ Tri w0 w' g go gr n1 n2 Q (dropC r f).1 ro r2 ∧ Stay Q w w' := by
  obtain ⟨Z, Zo, Zr, h⟩ := h
  refine (drop_any f h.c).mono ?_
  rintro e w' ⟨rfl, hw⟩
  exact ⟨rfl, h.wentC hw⟩
theorem tri_rdrop (h : Tri w0 w g go gr n1 n2 Q r ro r2) (f : Int) (hf : Fine r2) :
    Calls Try.prog (17) #[pt gr, .int .i64 f] w fun e w' => e = .returned (.int .i64 ((dropC r2 f).2 : Nat)) ∧ Tri w0 w' g go gr n1 n2 Q r ro (dropC r2 f).1 ∧ Stay Q w w' := by
  obtain ⟨Z, Zo, Zr, h⟩ := h
  refine (rdrop_any f h.d hf).mono ?_
  rintro e w' ⟨rfl, hw⟩
  exact ⟨rfl, h.wentD hw⟩
theorem tri_put (h : Tri w0 w g go gr n1 n2 Q r ro r2) (f a : Int) (A : Option Addr) (c n : Nat) (bs : List Nat) (hf : wf64 f) (ha : wf64 a) (hn : n = bs.length) (hb : LiesP w Q A (bs.map vb)) (h0 : A = none → bs.length = 0 ∧ c = 0) (hfew : bs.length ≤ 100) (h8 : ∀ x, x ∈ bs → x < 256) (hp : pinned r.1 + 1 ≤ 1000) (hl : r.1.length + 1 ≤ 1000) :
    Calls Try.prog (10) #[pt g, .int .i64 f, .int .i64 a, .slice A n c] w fun e w' => e = .returned (.bool (putC n1 r f a bs).2) ∧ Tri w0 w' g go gr n1 n2 Q (putC n1 r f a bs).1 ro r2 ∧ Stay Q w w' := by
  subst hn
  obtain ⟨Z, Zo, Zr, h⟩ := h
  refine (put_any f a A c bs hf ha h.c (hb.later (fun _ _ => rfl) fun k hk => ⟨(h.q k hk).1, fun hz => (h.gc k hz).2 hk⟩) h0 hfew h8 hp hl).mono ?_
  rintro e w' ⟨rfl, hw⟩
  exact ⟨rfl, h.wentC hw⟩
theorem tri_rput (h : Tri w0 w g go gr n1 n2 Q r ro r2) (f a : Int) (A : Option Addr) (c : Nat) (bs : List Nat) (hfi : Fine r2) (hb : Lies w w0.heap.size A (bs.map vb)) (hfew : bs.length ≤ 100) (h8 : ∀ x, x ∈ bs → x < 256) (hp : pinned r2.1 + 1 ≤ 1000) (hl : r2.1.length + 1 ≤ 1000) :
    Calls Try.prog (13) #[pt gr, .int .i64 f, .int .i64 a, .slice A bs.length c] w fun e w' => e = .returned (.bool (putC n2 r2 f a bs).2) ∧ Tri w0 w' g go gr n1 n2 Q r ro (putC n2 r2 f a bs).1 ∧ Stay Q w w' := by
  obtain ⟨Z, Zo, Zr, h⟩ := h
  have hl2 : LiesP w (fun k => k < w.heap.size ∧ ¬ Zr k) A (bs.map vb) := by
    rcases hb with h1 | ⟨ad, h1, h2, h3⟩
    · exact .inl h1
    · exact .inr ⟨ad, h1, ⟨Nat.lt_of_lt_of_le h2 h.be.size, fun hy => Nat.not_lt_of_le (h.gd _ hy).1 h2⟩, h3⟩
  refine (rput_any f a A c bs h.d hfi hl2 hfew h8 hp hl).mono ?_
  rintro e w' ⟨rfl, hw⟩
  exact ⟨rfl, h.wentD hw⟩
theorem tri_oput (h : Tri w0 w g go gr n1 n2 Q r ro r2) (f a : Int) (hf : wf64 f) (ha : wf64 a) (hp : pinned ro.1 + 1 ≤ 1000) (hl : ro.1.length + 1 ≤ 1000) :
    Calls Try.prog (10) #[pt go, .int .i64 f, .int .i64 a, .slice (some ⟨w.heap.size, 0, none⟩) 1 1] (w.alloc (.cells #[.int .u8 1] 5)) fun e w' => e = .returned (.bool (putC 50 ro f a [1]).2) ∧ Tri w0 w' g go gr n1 n2 Q r (putC 50 ro f a [1]).1 r2 ∧ Stay Q w w' := by
  have hb := Joins.below_alloc1 w (.cells #[.int .u8 1] 5)
  have hst := h.stay hb
  obtain ⟨Z, Zo, Zr, h1⟩ := h
  have h2 := h1.below hb
  refine (put_any f a _ 1 [1] hf ha h2.o (one_lies h1.o 1) (fun e => by cases e) (by decide) (by decide) hp hl).mono ?_
  rintro e w' ⟨rfl, hw⟩
  obtain ⟨h3, h4⟩ := h2.wentO hw
  exact ⟨rfl, h3, fun k hk => (h4 k hk).trans (hst k hk)⟩
theorem tri_same (h : Tri w0 w g go gr n1 n2 Q r ro r) (hl : r.1.length ≤ 1000) : Calls Try.prog 18 #[pt g, pt gr] w fun e w' => e = .returned (.bool true) ∧ Tri w0 w' g go gr n1 n2 Q r ro r := by
  obtain ⟨Z, Zo, Zr, h1⟩ := id h
  refine (same_any h1.c h1.d hl).mono ?_
  rintro e w' ⟨rfl, hb⟩
  exact ⟨rfl, h.below hb⟩
end
/-- Bytes in a block that may be written. -/
def RowB (w : World) (gb N : Nat) : Prop := ∃ us : List Value, Box w gb 5 us ∧ ∀ i, i < N → ∃ x : Nat, x < 256 ∧ us[i]? = some (vb x)
theorem RowB.cell {w : World} {gb N : Nat} (h : RowB w gb N) {k : Nat} (hk : k < N) : ∃ x : Nat, x < 256 ∧ w.cell? ⟨gb, k, none⟩ = some (.int .u8 (x : Int)) ∧ w.frozen? ⟨gb, k, none⟩ = false := by
  obtain ⟨us, h1, h2⟩ := h
  obtain ⟨x, h3, h4⟩ := h2 k hk
  exact ⟨x, h3, (h1.cell k).trans h4, h1.free k⟩
theorem RowB.at_block {w w' : World} {gb N : Nat} (h : RowB w gb N) (hk : w'.heap[gb]? = w.heap[gb]?) : RowB w' gb N := by
  obtain ⟨us, h1, h2⟩ := h
  exact ⟨us, h1.at_block hk, h2⟩
theorem RowB.set {w : World} {gb N : Nat} (h : RowB w gb N) (k : Nat) {x : Nat} (hx : x < 256) : RowB (w.setCell ⟨gb, k, none⟩ (.int .u8 (x : Int))) gb N := by
  obtain ⟨us, h1, h2⟩ := h
  refine ⟨_, h1.set k _, fun i hi => ?_⟩
  obtain ⟨y, h3, h4⟩ := h2 i hi
  by_cases hk : k = i
  · subst hk
    refine ⟨x, hx, ?_⟩
    rw [List.getElem?_set_self (List.getElem?_eq_some_iff.1 h4).1]
  · exact ⟨y, h3, by rw [List.getElem?_set_ne hk]; exact h4⟩
/-- The block of a slice of the call's own. -/
theorem own_rowB {w : World} {base n c : Nat} {A : Option Addr} {xs : List Nat} (h : w.ownsRow base 5 1 (.slice A n c) n (xs.map vb)) (hn : n = xs.length) (h8 : ∀ x, x ∈ xs → x < 256) : (A = none → n = 0 ∧ c = 0) ∧ ∃ gb, 0 < n → A = some ⟨gb, 0, none⟩ ∧ base ≤ gb ∧ gb < w.heap.size ∧ RowB w gb n := by
  rcases h.2 with ⟨hv, h0⟩ | ⟨gb, cap, cur, hv, hg, hh, _⟩
  · injection hv with hA _ hc
    exact ⟨fun _ => ⟨h0, hc⟩, 0, fun h1 => by omega⟩
  · injection hv with hA
    subst hA
    refine ⟨fun e => (by cases e), gb, fun _ => ⟨rfl, hg, (Array.getElem?_eq_some_iff.1 hh).1, ?_⟩⟩
    have hb : Box w gb 5 cur.toList := by unfold Box; rw [hh, Array.toArray_toList]
    refine ⟨cur.toList, hb, fun i hi => ?_⟩
    obtain ⟨x, hx⟩ : ∃ x, xs[i]? = some x := ⟨_, List.getElem?_eq_getElem (by omega)⟩
    have := h.cells (g := gb) rfl i (vb x) (by rw [List.getElem?_map, hx]; rfl)
    rw [show (Addr.add ⟨gb, 0, none⟩ i) = ⟨gb, i, none⟩ by unfold Addr.add; split <;> simp_all, hb.cell] at this
    exact ⟨x, h8 x (List.mem_of_getElem? hx), this⟩
theorem xor_byte {x : Nat} (hx : x < 256) : ∃ y : Nat, y < 256 ∧ bits .xor .u8 (x : Int) 255 = (y : Int) := ⟨x ^^^ 255, Nat.xor_lt_two_pow (n := 8) hx (by decide), u8_xor_nat x 255 hx (by decide)⟩
theorem put_rooms {n1 n2 : Nat} {c : R} (f a : Int) (b : List Nat) (hu : used c.1 ≤ 100000) (hb : b.length ≤ 100) (hn : n1 = n2 ∨ (200000 ≤ n1 ∧ 200000 ≤ n2)) : putC n1 c f a b = putC n2 c f a b := by
  rcases hn with rfl | ⟨h1, h2⟩
  · rfl
  · unfold putC
    rw [make_fits (room := n1) (by omega), make_fits (room := n2) (by omega)]
theorem rooms (n : Int) : roomO n = roomy n ∨ (200000 ≤ roomO n ∧ 200000 ≤ roomy n) := by
  unfold roomO roomy
  omega
end Go.Proofs.Ytbeohfmikpbkhaa.Ck
