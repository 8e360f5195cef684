/- The document's own join: what its loops keep. -/
import Derived.Test.YthhmjjmjicmhdaaVrv
import Derived.Test.YthhmjjmjicmhdaaLast
namespace Go.Proofs.Ythhmjjmjicmhdaa.Ve
set_option linter.unusedVariables false
set_option linter.unusedSimpArgs false
open Go.RowKit Lift Ik Ed
abbrev zeroV : List Value := [.slice none 0 0, .int .i64 0, .int .i64 0, .int .u64 0]
abbrev ZV : Y := ⟨none, 0, [], 0, 0, 0⟩
/-- What join has while it copies: version and edit in their boxes, the result, the version in the making. -/
structure JS (w wr : World) (y : Y) (x : X) (va : Value) (L : List D) (nx lg : Int) (sq : Nat) : Prop where
  bv : Box wr w.heap.size 44 y.cells
  bx : Box wr (w.heap.size + 1) 26 [.slice x.addA x.add.length x.addC, .slice x.dropA x.drop.length x.dropC, .int .i64 x.next, .int .i64 x.log, .int .u64 (x.seq : Int)]
  res : Box wr (w.heap.size + 1 + 1) 44 zeroV
  out : Box wr (w.heap.size + 1 + 1 + 1) 44 [va, .int .i64 nx, .int .i64 lg, .int .u64 (sq : Int)]
  oy : y.Ok wr w.heap.size
  ox : x.Ok wr w.heap.size
  add : Ac (w.heap.size + 4) wr va L
  be : Below w.heap.size w wr
  size : w.heap.size + 4 ≤ wr.heap.size
section
variable {w wr w' : World} {y : Y} {x : X} {va va' : Value} {L L' : List D} {nx lg nx' lg' : Int} {sq sq' : Nat}
theorem JS.below (h : JS w wr y x va L nx lg sq) (hb : Below wr.heap.size wr w') : JS w w' y x va L nx lg sq :=
  ⟨h.bv.below hb h.bv.lt, h.bx.below hb h.bx.lt, h.res.below hb h.res.lt, h.out.below hb h.out.lt, h.oy.below (hb.mono h.be.size), h.ox.below (hb.mono h.be.size), h.add.below hb, h.be.trans (hb.mono h.be.size), Nat.le_trans h.size hb.size⟩
/-- Blocks above these are written. -/
theorem JS.above {S : Nat → Prop} (h : JS w wr y x va L nx lg sq) (hk : Keep S wr w') (hS : ∀ k, S k → w.heap.size + 4 ≤ k) (ha : Ac (w.heap.size + 4) w' va' L') (v' : Value) (hv : v' = va') :
    JS w (w'.setCell ⟨w.heap.size + 1 + 1 + 1, 0, none⟩ v') y x va' L' nx lg sq := by
  subst hv
  have hbe : Below w.heap.size w w' := h.be.trans (hk.below h.be.size fun k hs => by have := hS k hs; omega)
  have hk2 : Keep (· = w.heap.size + 1 + 1 + 1) w' (w'.setCell ⟨w.heap.size + 1 + 1 + 1, 0, none⟩ v') := (Keep.refl (· = w.heap.size + 1 + 1 + 1) w').setCell (p := ⟨w.heap.size + 1 + 1 + 1, 0, none⟩) (.inr rfl) _
  have hb2 : Below w.heap.size w' (w'.setCell ⟨w.heap.size + 1 + 1 + 1, 0, none⟩ v') := hk2.below hbe.size fun k hk => by omega
  have hb1 : Below w.heap.size wr w' := hk.below h.be.size fun k hs => by have := hS k hs; omega
  exact ⟨(h.bv.keep hk fun hs => by have := hS _ hs; omega).keep hk2 (by omega), (h.bx.keep hk fun hs => by have := hS _ hs; omega).keep hk2 (by omega), (h.res.keep hk fun hs => by have := hS _ hs; omega).keep hk2 (by omega), (h.out.keep hk fun hs => by have := hS _ hs; omega).set 0 _,
    (h.oy.below hb1).below hb2, (h.ox.below hb1).below hb2, ha.low hk2 fun k hk => by omega, hbe.trans hb2, Nat.le_trans h.size (Nat.le_trans hk.size hk2.size)⟩
/-- A number of the version in the making is written. -/
theorem JS.set (h : JS w wr y x va L nx lg sq) (i : Nat) (u : Value) (hu : [va, .int .i64 nx, .int .i64 lg, .int .u64 (sq : Int)].set i u = [va, .int .i64 nx', .int .i64 lg', .int .u64 (sq' : Int)]) : JS w (wr.setCell ⟨w.heap.size + 1 + 1 + 1, i, none⟩ u) y x va L nx' lg' sq' := by
  have hk : Keep (· = w.heap.size + 1 + 1 + 1) wr (wr.setCell ⟨w.heap.size + 1 + 1 + 1, i, none⟩ u) := (Keep.refl (· = w.heap.size + 1 + 1 + 1) wr).setCell (p := ⟨w.heap.size + 1 + 1 + 1, i, none⟩) (.inr rfl) _
  have hb : Below w.heap.size wr (wr.setCell ⟨w.heap.size + 1 + 1 + 1, i, none⟩ u) := hk.below h.be.size fun k hk => by omega
  have ho := h.out.set i u
  rw [hu] at ho
  exact ⟨h.bv.keep hk (by omega), h.bx.keep hk (by omega), h.res.keep hk (by omega), ho, h.oy.below hb, h.ox.below hb, h.add.low hk fun k hk => by omega, h.be.trans hb, Nat.le_trans h.size hk.size⟩
/-- What the loads of a round rest on: the version in the making, the list that is copied, the run. -/
def Src (w : World) (va : Value) (b : Nat) (A : Option Addr) (n c : Nat) (p : Addr) (d : D) (w' : World) : Prop :=
  w'.cell? ⟨w.heap.size + 1 + 1 + 1, 0, none⟩ = some va ∧ w'.cell? ⟨b, 0, none⟩ = some (.slice A n c) ∧ w'.cell? p = some (.int .i64 d.file) ∧ w'.cell? ⟨p.block, p.off + 1, none⟩ = some (.int .i64 d.bytes) ∧ w'.cell? ⟨p.block, p.off + 2, none⟩ = some (.int .i64 d.count) ∧ w'.cell? ⟨p.block, p.off + 3, none⟩ = some (.slice d.firstA d.first.length d.firstC) ∧ w'.cell? ⟨p.block, p.off + 4, none⟩ = some (.slice d.lastA d.last.length d.lastC) ∧ w'.cell? ⟨p.block, p.off + 5, none⟩ = some (.int .u64 (d.seq : Int))
theorem Src.same {b n c : Nat} {A : Option Addr} {p : Addr} {d : D} {w1 w2 : World} (h : Src w va b A n c p d w1) (hp : p.block < w.heap.size) (hb : b < w.heap.size + 4) (hk : ∀ k, k < w.heap.size + 4 → w2.heap[k]? = w1.heap[k]?) : Src w va b A n c p d w2 := by
  obtain ⟨h0, h1, h2, h3, h4, h5, h6, h7⟩ := h
  have e : ∀ {q : Addr} {v : Value}, q.block < w.heap.size + 4 → w1.cell? q = some v → w2.cell? q = some v := fun hq hv => (World.cell?_of_block (w := w1) (hk _ hq)).trans hv
  exact ⟨e (by show w.heap.size + 1 + 1 + 1 < _; omega) h0, e hb h1, e (by omega) h2, e (by show p.block < _; omega) h3, e (by show p.block < _; omega) h4, e (by show p.block < _; omega) h5, e (by show p.block < _; omega) h6, e (by show p.block < _; omega) h7⟩
/-- A copy is laid behind the others. -/
theorem JS.more (h : JS w wr y x va L nx lg sq) {d : D} (hd : d.Ok wr (Fresh (w.heap.size + 4) wr)) (hL : L.length ≤ 100000) :
    ∃ v' w', Sem.run Try.prog (Builtin.append_ #[22, 22] 22 #[va, .slice (some ⟨wr.heap.size, 0, none⟩) 1 1]) (wr.alloc (rbox d)) = .ok v' w' ∧ (∀ k, k < w.heap.size + 4 → w'.heap[k]? = wr.heap[k]?) ∧ w'.cell? ⟨w.heap.size + 1 + 1 + 1, 0, none⟩ = some va ∧ w'.frozen? ⟨w.heap.size + 1 + 1 + 1, 0, none⟩ = false ∧ JS w (w'.setCell ⟨w.heap.size + 1 + 1 + 1, 0, none⟩ v') y x v' (L ++ [d]) nx lg sq := by
  obtain ⟨v', w', hr, ha, hon⟩ := h.add.more hd (by have := h.size; omega) (by omega)
  have hk := hon.keep
  have hg : ∀ k, va.ownBlock = some k → w.heap.size + 4 ≤ k := fun k hv => (h.add.own.lt k hv).1
  have ho := h.out.keep hk fun hs => by have := hg _ hs; omega
  exact ⟨v', w', hr, fun k hlt => hk.block k (by have := h.size; omega) fun hs => by have := hg _ hs; omega, ho.cell 0, ho.free 0, h.above hk hg ha v' rfl⟩
end
end Go.Proofs.Ythhmjjmjicmhdaa.Ve
