/- Three disks of the call's own side by side: two of the project's and the document's. -/
import Derived.Test.YtnbknihaefkllaaDact
import Derived.Test.YtnbknihaefkllaaDremove
import Derived.Test.YtnbknihaefkllaaRappn
import Derived.Test.YtnbknihaefkllaaRcrash
import Derived.Test.YtnbknihaefkllaaRrename
import Derived.Test.YtnbknihaefkllaaRlist
namespace Go.Proofs.Ytnbknihaefkllaa.Dl
set_option linter.unusedVariables false
set_option linter.unusedSimpArgs false
open Go.RowKit Go.Maps Lift Ik
open Dk (MS FM hit hit_fs hit_failed sizeM readM syncM appendM crashM renameM onFile)
open Rk (RTold removeM)

structure Tri (B : Nat) (w0 w : World) (g : Nat) (S : Nat → Prop) (md : MS) (gr : Nat) (Sr : Nat → Prop) (rm : Int) (mr : MS) (go : Nat) (So : Nat → Prop) (mo : MS) : Prop where
  d : Dk.At w g S md
  r : Rk.At w gr Sr rm mr
  o : Dk.At w go So mo
  ds : ∀ k, S k → B ≤ k
  rs : ∀ k, Sr k → B ≤ k
  os : ∀ k, So k → B ≤ k
  a1 : ∀ k, S k → ¬ Sr k
  a2 : ∀ k, S k → ¬ So k
  a3 : ∀ k, Sr k → ¬ So k
  low : Below B w0 w
  up : B ≤ w0.heap.size
section
variable {B g gr go : Nat} {w0 w w' : World} {S Sr So S' T : Nat → Prop} {md mr mo m' : MS} {rm : Int}
theorem Tri.size (h : Tri B w0 w g S md gr Sr rm mr go So mo) : B ≤ w.heap.size := Nat.le_trans h.up h.low.size
theorem Tri.dd (h : Tri B w0 w g S md gr Sr rm mr go So mo) (hA : Dk.At w' g S' m') (hK : Keep S w w') (hS : ∀ k, S' k → S k ∨ w.heap.size ≤ k) : Tri B w0 w' g S' m' gr Sr rm mr go So mo :=
  ⟨hA, h.r.keep hK fun k hk hs => h.a1 k hs hk, h.o.keep hK fun k hk hs => h.a2 k hs hk, fun k hk => (hS k hk).elim (h.ds k) fun h1 => Nat.le_trans h.size h1, h.rs, h.os,
    fun k hk hr => (hS k hk).elim (fun hs => h.a1 k hs hr) (fun h1 => by have := h.r.lt k hr; omega), fun k hk hr => (hS k hk).elim (fun hs => h.a2 k hs hr) (fun h1 => by have := h.o.lt k hr; omega), h.a3, h.low.trans (hK.below h.size h.ds), h.up⟩
theorem Tri.rr (h : Tri B w0 w g S md gr Sr rm mr go So mo) (hA : Rk.At w' gr S' rm m') (hK : Keep Sr w w') (hS : ∀ k, S' k → Sr k ∨ w.heap.size ≤ k) : Tri B w0 w' g S md gr S' rm m' go So mo :=
  ⟨h.d.keep hK fun k hk hs => h.a1 k hk hs, hA, h.o.keep hK fun k hk hs => h.a3 k hs hk, h.ds, fun k hk => (hS k hk).elim (h.rs k) fun h1 => Nat.le_trans h.size h1, h.os,
    fun k hk hr => (hS k hr).elim (fun hs => h.a1 k hk hs) (fun h1 => by have := h.d.lt k hk; omega), h.a2, fun k hk hr => (hS k hk).elim (fun hs => h.a3 k hs hr) (fun h1 => by have := h.o.lt k hr; omega), h.low.trans (hK.below h.size h.rs), h.up⟩
theorem Tri.oo (h : Tri B w0 w g S md gr Sr rm mr go So mo) (hA : Dk.At w' go S' m') (hK : Keep So w w') (hS : ∀ k, S' k → So k ∨ w.heap.size ≤ k) : Tri B w0 w' g S md gr Sr rm mr go S' m' :=
  ⟨h.d.keep hK fun k hk hs => h.a2 k hk hs, h.r.keep hK fun k hk hs => h.a3 k hk hs, hA, h.ds, h.rs, fun k hk => (hS k hk).elim (h.os k) fun h1 => Nat.le_trans h.size h1,
    h.a1, fun k hk hr => (hS k hr).elim (fun hs => h.a2 k hk hs) (fun h1 => by have := h.d.lt k hk; omega), fun k hk hr => (hS k hr).elim (fun hs => h.a3 k hk hs) (fun h1 => by have := h.r.lt k hk; omega), h.low.trans (hK.below h.size h.os), h.up⟩
theorem Tri.keep (h : Tri B w0 w g S md gr Sr rm mr go So mo) (hK : Keep T w w') (hT : ∀ k, T k → B ≤ k ∧ ¬ S k ∧ ¬ Sr k ∧ ¬ So k) : Tri B w0 w' g S md gr Sr rm mr go So mo :=
  ⟨h.d.keep hK fun k hk ht => (hT k ht).2.1 hk, h.r.keep hK fun k hk ht => (hT k ht).2.2.1 hk, h.o.keep hK fun k hk ht => (hT k ht).2.2.2 hk, h.ds, h.rs, h.os, h.a1, h.a2, h.a3, h.low.trans (hK.below h.size fun k hk => (hT k hk).1), h.up⟩
theorem Tri.below (h : Tri B w0 w g S md gr Sr rm mr go So mo) (hb : Below w.heap.size w w') : Tri B w0 w' g S md gr Sr rm mr go So mo := h.keep (T := fun _ => False) (below_keep hb) fun _ h => h.elim
/-- A block that none of the disks has. -/
def Tri.free (h : Tri B w0 w g S md gr Sr rm mr go So mo) (k : Nat) : Prop := ¬ S k ∧ ¬ Sr k ∧ ¬ So k
theorem free_d {A : Option Addr} {xs : List Value} (h : Tri B w0 w g S md gr Sr rm mr go So mo) (hl : Lies w0 B A xs) : LiesP w (fun k => ¬ S k ∧ k < w.heap.size) A xs :=
  (hl.below h.low).p fun k hk => ⟨fun hs => absurd (h.ds k hs) (Nat.not_le_of_lt hk), Nat.lt_of_lt_of_le hk h.size⟩
theorem free_r {A : Option Addr} {xs : List Value} (h : Tri B w0 w g S md gr Sr rm mr go So mo) (hl : Lies w0 B A xs) : LiesP w (fun k => ¬ Sr k ∧ k < w.heap.size) A xs :=
  (hl.below h.low).p fun k hk => ⟨fun hs => absurd (h.rs k hs) (Nat.not_le_of_lt hk), Nat.lt_of_lt_of_le hk h.size⟩
end
/-- The disk behind a call. -/
def doM (m : MS) (a : Ac) : MS :=
  if a.way = 0 then (appendM m a.p a.b).2 else if a.way = 1 then (syncM m a.p).2 else if a.way = 2 then (renameM m a.p a.q).2 else if a.way = 3 then (removeM m a.p).2 else if a.way = 4 then (hit m).2
  else if a.way = 5 then crashM m a.n else if a.way = 6 then { m with armed := a.l } else m
theorem onFile_failed {m : MS} {ns : List ByteArray} {nm : ByteArray} {f : FM → List FM} : (onFile m ns nm (fun e => (e, (hit m).2)) fun x => (0, { (hit m).2 with fs := f x })).2.failed ≤ m.failed + 1 := by
  have h := hit_failed m
  unfold onFile
  split
  · exact h
  · split
    · exact h
    · exact h
theorem append_failed (m : MS) (nm : ByteArray) (b : List Nat) : (appendM m nm b).2.failed ≤ m.failed + 1 := by
  have h := hit_failed m
  unfold appendM
  split
  · exact h
  · split
    · exact h
    · split
      · exact h
      · exact h
theorem do_failed (m : MS) (a : Ac) : (doM m a).failed ≤ m.failed + 1 := by
  have h := hit_failed m
  unfold doM
  split
  · exact append_failed m a.p a.b
  · split
    · exact onFile_failed
    · split
      · exact onFile_failed
      · split
        · exact onFile_failed
        · split
          · exact h
          · split
            · exact Nat.le_succ _
            · split
              · exact Nat.le_succ _
              · exact Nat.le_succ _
theorem rappend_any {w : World} {g : Nat} {S : Nat → Prop} {rm : Int} {m : MS} (nm : ByteArray) (Ab : Option Addr) (cb : Nat) (bs : List Nat) (hn : nm.size ≤ 1000) (h : Rk.At w g S rm m) (hf : m.failed ≤ 1000000) (hb : LiesP w (fun k => ¬ S k ∧ k < w.heap.size) Ab (bs.map vb)) (hbl : bs.length ≤ 1099511627776) (hb8 : ∀ x, x ∈ bs → x < 256) :
    Calls Try.prog (16) #[.pointer (some ⟨g, 0, none⟩), .string nm, .slice Ab bs.length cb] w (RTold w g S rm (appendM m nm bs)) := by
  cases hi : Rk.isAt m.fs nm
  · exact Rk.rappend_new nm Ab cb bs hn h hf hi hb hbl hb8
  · exact Rk.rappend_old nm Ab cb bs hn h hf hi hb hbl hb8
end Go.Proofs.Ytnbknihaefkllaa.Dl
