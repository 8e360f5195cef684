/- Files of a disk go and are renamed: what becomes of it. -/
import Derived.Test.YtnbknihaefkllaaDcreate
namespace Go.Proofs.Ytnbknihaefkllaa.Dk
set_option linter.unusedVariables false
set_option linter.unusedSimpArgs false
open Go.RowKit Go.Maps Lift Ik

def delM (l : List FM) (nm : ByteArray) : List FM := l.filter fun f => !decide (f.nm = nm)
def delF (l : List Fi) (nm : ByteArray) : List Fi := l.filter fun f => !decide (f.nm = nm)
theorem delF_told (l : List Fi) (nm : ByteArray) : (delF l nm).map Fi.m = delM (l.map Fi.m) nm := by
  unfold delF delM
  rw [List.filter_map]
  rfl
theorem delF_mem {l : List Fi} {nm : ByteArray} {x : Fi} : x ∈ delF l nm ↔ x ∈ l ∧ x.nm ≠ nm := by
  unfold delF
  rw [List.mem_filter]
  simp
theorem delF_pair {l : List Fi} {nm : ByteArray} (h : l.Pairwise sep) : (delF l nm).Pairwise sep := h.filter _
theorem delF_le (l : List Fi) (nm : ByteArray) : (delF l nm).length ≤ l.length := List.length_filter_le _ _
theorem delM_id {l : List FM} {nm : ByteArray} (h : ∀ x, x ∈ l → x.nm ≠ nm) : delM l nm = l := by
  unfold delM
  rw [List.filter_eq_self]
  intro x hx
  rw [decide_eq_false (h x hx)]
  rfl
def szO : Option FM → Nat
  | some f => f.bs.length
  | none => 0
theorem used_del {l : List FM} {nm : ByteArray} (hp : l.Pairwise fun a b => a.nm ≠ b.nm) : used (delM l nm) + szO (Dk.get l nm) = used l := by
  induction l with
  | nil => rfl
  | cons a l ih =>
    obtain ⟨h1, h2⟩ := List.pairwise_cons.1 hp
    have e : ∀ (b : FM) (r : List FM), used (b :: r) = b.bs.length + used r := fun b r => by simp [used]
    have ih := ih h2
    by_cases ha : a.nm = nm
    · have h3 : delM (a :: l) nm = delM l nm := by unfold delM; rw [List.filter_cons, decide_eq_true ha]; rfl
      have h4 : Dk.get (a :: l) nm = some a := by unfold Dk.get; rw [List.find?_cons, decide_eq_true ha]
      rw [h3, h4, delM_id (fun x hx e1 => h1 x hx (by rw [ha, e1])), e]
      show used l + a.bs.length = _
      omega
    · have h3 : delM (a :: l) nm = a :: delM l nm := by unfold delM; rw [List.filter_cons, decide_eq_false ha]; rfl
      have h4 : Dk.get (a :: l) nm = Dk.get l nm := by unfold Dk.get; rw [List.find?_cons, decide_eq_false ha]
      rw [h3, h4, e, e]
      omega
theorem del_ent (fs : List Fi) (nm : ByteArray) : (DataW.map (fs.map ent)).del (kl nm) = .map ((delF fs nm).map ent) := by
  unfold DataW.del delF
  simp only [List.filter_map]
  congr 1
  congr 1
  refine List.filter_congr fun x _ => ?_
  show (!(kl x.nm).sameKey (kl nm)) = _
  rw [kl_same]
theorem put_ent' (fs : List Fi) (nm : ByteArray) (d : DataW Unit) : (DataW.map (fs.map ent)).put (kl nm) d = .map (DataW.insert (kl nm, d) ((delF fs nm).map ent)) := by
  unfold DataW.put delF
  simp only [List.filter_map]
  congr 2
  congr 1
  refine List.filter_congr fun x _ => ?_
  show (!(kl x.nm).sameKey (kl nm)) = _
  rw [kl_same]
theorem look_own {w : World} {b n : Nat} {fs : List Fi} (hm : w.ownsMap Try.prog 9 ptrR b n (.map (fs.map ent))) (nm : ByteArray) (hl : nm.size ≤ 40) :
    Sem.run Try.prog (Instr.lookup 42 (.map (some b)) (.string nm) false) w = .ok (ptrV (look fs nm)) w := by
  have hkey : keyOf Try.prog 9 (.string nm) = some (kl nm) := WideMaps.keyOf_string_mk Try.underlying9 (by unfold maxLen; omega)
  obtain ⟨v, ps, hrun, hv⟩ := hm.lookup law Try.underlying42 (zeroE w) (zd := .nil) (zp := []) rfl hkey
  rw [at_ent] at hv
  have e : v = ptrV (look fs nm) := by
    cases hlk : look fs nm with
    | none => rw [hlk] at hv; exact ptrR_nil hv
    | some f => rw [hlk] at hv; exact ptrR_some hv
  rw [hrun, e]
/-- 'd.files[nm] = f', whether there was a file of that name or not. -/
theorem store_run' {w : World} {b n blk : Nat} {fs : List Fi} {nm : ByteArray} (h : w.ownsMap Try.prog 9 ptrR b n (.map (fs.map ent))) (hn : n ≤ 1000) (hl : nm.size ≤ 40) (v : Value) (bs : List Nat) (syn : Nat) :
    ∃ w', Sem.run Try.prog (Instr.mapUpdate 42 (.map (some b)) (.string nm) (.pointer (some ⟨blk, 0, none⟩))) w = .ok () w' ∧
      w'.ownsMap Try.prog 9 ptrR b (insF ⟨nm, blk, v, bs, syn⟩ (delF fs nm)).length (.map ((insF ⟨nm, blk, v, bs, syn⟩ (delF fs nm)).map ent)) ∧ Keep (· = b) w w' := by
  have hkey : keyOf Try.prog 9 (.string nm) = some (kl nm) := WideMaps.keyOf_string_mk Try.underlying9 (by unfold maxLen; omega)
  obtain ⟨w', hrun, ho, ht⟩ := h.store law Try.underlying42 (by unfold maxLen; omega) hkey (show ptrR (.pointer (some ⟨blk, 0, none⟩)) = some (dat blk, []) from rfl)
  rw [put_ent'] at ho
  have e : (insF ⟨nm, blk, v, bs, syn⟩ (delF fs nm)).map ent = DataW.insert (kl nm, dat blk) ((delF fs nm).map ent) := insF_ent _ _
  rw [← e] at ho
  have ht2 := tight ho
  have hz : Maps.size (DataW.map ((insF ⟨nm, blk, v, bs, syn⟩ (delF fs nm)).map ent)) = (insF ⟨nm, blk, v, bs, syn⟩ (delF fs nm)).length := by simp [Maps.size]
  rw [hz] at ht2
  exact ⟨w', hrun, ht2, map_turned ht⟩
/-- 'delete(d.files, nm)'. -/
theorem drop_run {w : World} {b n : Nat} {fs : List Fi} {nm : ByteArray} (h : w.ownsMap Try.prog 9 ptrR b n (.map (fs.map ent))) (hl : nm.size ≤ 40) (ty : TypeId) :
    ∃ w', Sem.run Try.prog (Builtin.delete_ #[42, 9] ty #[.map (some b), .string nm]) w = .ok (.tuple #[]) w' ∧ w'.ownsMap Try.prog 9 ptrR b (delF fs nm).length (.map ((delF fs nm).map ent)) ∧ Keep (· = b) w w' := by
  have hkey : keyOf Try.prog 9 (.string nm) = some (kl nm) := WideMaps.keyOf_string_mk Try.underlying9 (by unfold maxLen; omega)
  obtain ⟨w', hrun, ho, ht⟩ := h.drop law Try.underlying42 hkey ty
  rw [del_ent] at ho
  have ht2 := tight ho
  have hz : Maps.size (DataW.map ((delF fs nm).map ent)) = (delF fs nm).length := by simp [Maps.size]
  rw [hz] at ht2
  exact ⟨w', hrun, ht2, map_turned ht⟩

section
variable {w w' : World} {g : Nat} {S S' T : Nat → Prop} {m : MS} {fs : List Fi} {M : Option Nat} {A : Option Addr} {c : Nat}
/-- Only the struct and the map are written: files go, or take other names. -/
theorem Lay.head {b : Nat} {fs' : List Fi} (h : Lay w g S m fs (some b) A c) (hk : Keep (Hd g (some b)) w w') (hf : ∀ x, x ∈ fs' → ∃ y, y ∈ fs ∧ x.blk = y.blk ∧ x.v = y.v ∧ x.bs = y.bs ∧ x.syn = y.syn ∧ x.nm.size ≤ 40)
    (hs : fs'.Pairwise sep) (hm : w'.ownsMap Try.prog 9 ptrR b fs'.length (.map (fs'.map ent))) (hn : fs'.length ≤ 1000)
    (hb : Box w' g Ty.disk [.int .i64 (m.room : Int), .int .i64 (used (fs'.map Fi.m) : Int), .map (some b), .slice A m.armed.length c, .int .i64 (m.failed : Int)]) (hu : used (fs'.map Fi.m) ≤ m.room) :
    Lay w' g S { m with fs := fs'.map Fi.m } fs' (some b) A c := by
  have hsb : S b := by
    rcases h.files.map with ⟨h0, _⟩ | ⟨b', hb', hs, _⟩
    · cases h0
    · cases hb'; exact hs
  refine ⟨hb, h.sg, ⟨.inr ⟨b, rfl, hsb, hm⟩, fun x hx => ?_, hs⟩, rfl, h.armed.keep hk (fun k ht _ => h.head_not_ints k ht) fun _ => id, h.cap, h.capm, h.wf, fun k hk1 => Nat.lt_of_lt_of_le (h.lt k hk1) hk.size, h.room, hu, by show (fs'.map Fi.m).length ≤ 1000; rw [List.length_map]; exact hn⟩
  obtain ⟨y, hy, e1, e2, e3, e4, e5⟩ := hf x hx
  obtain ⟨n1, n2⟩ := h.files.head_apart h.box y hy
  have o := (h.files.ok y hy).keep0 hk n1 n2 (fun _ => id)
  exact ⟨by rw [e1, e2, e4]; exact o.box, by rw [e2, e3]; exact o.own, by rw [e1]; exact o.sb, by rw [e2]; exact o.sv, by rw [e3, e4]; exact o.syn, by rw [e3]; exact o.len, by rw [e3]; exact o.byte, e5⟩
theorem find2 (n1 n2 : ByteArray) (h : Lay w g S m fs M A c) (hf : m.failed ≤ 1000000) :
    Calls Try.prog (37) #[.pointer (some ⟨g, 0, none⟩), .slice (some ⟨w.heap.size, 0, none⟩) 2 2] (w.alloc (.cells #[.string n1, .string n2] 9)) fun e w' => ∃ A' c', Keep (· = g) w w' ∧ Lay w' g S (hit m).2 fs M A' c' ∧
      ((∃ f, look fs n1 = some f ∧ bad m [n1, n2] = 0 ∧ e = .returned (.tuple #[.pointer (some ⟨f.blk, 0, none⟩), .int .i64 0])) ∨
        (gone m [n1, n2] (look fs n1) ≠ 0 ∧ e = .returned (.tuple #[.pointer none, .int .i64 (gone m [n1, n2] (look fs n1) : Nat)]))) := by
  have hk0 : Keep (fun _ => False) w (w.alloc (.cells #[.string n1, .string n2] 9)) := below_keep (Joins.below_alloc1 w _)
  have hg := h.lt g h.sg
  have hl : LiesP (w.alloc (.cells #[.string n1, .string n2] 9)) (fun k => ¬ k = g ∧ k < (w.alloc (.cells #[.string n1, .string n2] 9)).heap.size) (some ⟨w.heap.size, 0, none⟩) ([n1, n2].map Value.string) :=
    .inr ⟨_, rfl, ⟨by simp only; omega, by simp⟩, fun j u hj => by
      have hn := heap_alloc_new w (.cells #[.string n1, .string n2] 9)
      have := cell_of_row (w.alloc (.cells #[.string n1, .string n2] 9)) w.heap.size j _ _ _ hn
      have e : (⟨w.heap.size, 0, none⟩ : Addr).add j = ⟨w.heap.size, j, none⟩ := by unfold Addr.add; split <;> simp_all
      rw [e, this]
      rw [← hj]
      simp⟩
  refine (find_any g S m fs M A (some ⟨w.heap.size, 0, none⟩) c 2 n1 [n2] _ (h.keep hk0 fun _ _ => id) hf hl (by simp) (by decide)).mono ?_
  rintro e w' ⟨A', c', hk, hL, hc⟩
  exact ⟨A', c', (below_keep (S := (· = g)) (Joins.below_alloc1 w _)).trans hk fun _ _ h => h, hL, hc⟩
end
end Go.Proofs.Ytnbknihaefkllaa.Dk
