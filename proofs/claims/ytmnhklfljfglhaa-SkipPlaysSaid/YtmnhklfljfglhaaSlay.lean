/- Package skip: how a list lies in memory; what its links and its entries answer. -/
import Derived.Test.YtmnhklfljfglhaaSfn2
namespace Go.Proofs.Ytmnhklfljfglhaa.Sk
set_option linter.unusedVariables false
set_option linter.unusedSimpArgs false
open Go.RowKit Lift Ik

abbrev Ty.list : TypeId := 63
abbrev Ty.node : TypeId := 72
abbrev Ty.int : TypeId := 3
/-- An entry with its links, as it lies. -/
structure N where
  d : D
  b : Nat
  nx : List Nat
def N.cells (n : N) : List Value := [.slice n.d.ka n.d.k.key.length n.d.kc, .int .u64 (n.d.k.seq : Int), .int .i64 n.d.k.kind, .slice n.d.va n.d.val.length n.d.vc, .slice (some ⟨n.b, 0, none⟩) n.nx.length n.nx.length]
def cellsN (L : List N) : List Value := L.flatMap N.cells
theorem cellsN_length (L : List N) : (cellsN L).length = L.length * 5 := by
  induction L with
  | nil => rfl
  | cons d L ih => simp only [cellsN, List.flatMap_cons, List.length_append, List.length_cons] at ih ⊢; rw [ih]; simp [N.cells]; omega
theorem cellsN_append (L M : List N) : cellsN (L ++ M) = cellsN L ++ cellsN M := by simp [cellsN]
theorem cellsN_at {L : List N} {i : Nat} {d : N} (h : L[i]? = some d) (j : Nat) (hj : j < 5) : (cellsN L)[i * 5 + j]? = d.cells[j]? := by
  induction L generalizing i with
  | nil => simp at h
  | cons e L ih =>
    have hc : cellsN (e :: L) = e.cells ++ cellsN L := rfl
    rw [hc]
    cases i with
    | zero =>
      simp at h; subst h
      rw [List.getElem?_append_left (by simp [N.cells]; omega)]; simp
    | succ i =>
      simp at h
      rw [List.getElem?_append_right (by simp [N.cells]; omega), ← ih h]
      congr 1
      simp [N.cells]; omega
theorem cellsN_one {L : List N} : ∀ u, u ∈ cellsN L → u.oneCell' = true := by
  intro u hu
  obtain ⟨d, _, h⟩ := List.mem_flatMap.1 hu
  simp [N.cells] at h
  rcases h with rfl | rfl | rfl | rfl | rfl <;> rfl
theorem cellsN_set {L : List N} {p : Nat} {n n' : N} (h : L[p]? = some n) (hc : n'.cells = n.cells) : cellsN (L.set p n') = cellsN L := by
  induction L generalizing p with
  | nil => rfl
  | cons e L ih =>
    cases p with
    | zero => simp at h; subst h; simp [cellsN, hc]
    | succ p =>
      simp at h
      have := ih h
      simp only [cellsN, List.set_cons_succ, List.flatMap_cons] at this ⊢
      rw [this]
abbrev ints (l : List Nat) : List Value := l.map fun a : Nat => Value.int .i64 (a : Int)
/-- A link. -/
def nxt (fs : List Nat) (ns : List N) (a i : Nat) : Nat := if a = 0 then fs.getD i 0 else match ns[a - 1]? with | none => 0 | some n => n.nx.getD i 0
/-- A block of bytes. -/
def IsB (w : World) (k : Nat) : Prop := ∃ cs fr, w.heap[k]? = some (.cells cs 5 fr)
/-- A list in memory: its struct in block g, all of it in the blocks S. -/
structure Lay (w : World) (g : Nat) (S : Nat → Prop) (fs : List Nat) (V : Value) (ns : List N) (z : Nat) : Prop where
  box : Lift.Box w g Ty.list (ints fs ++ [V, .int .i64 (z : Int)])
  fl : fs.length = 12
  own : w.ownsRow 0 Ty.node 5 V ns.length (cellsN ns)
  nb : ∀ n, n ∈ ns → Lift.Box w n.b Ty.int (ints n.nx)
  nh : ∀ n, n ∈ ns → 1 ≤ n.nx.length ∧ n.nx.length ≤ 12
  nd : (ns.map N.b).Nodup
  ok : ∀ n, n ∈ ns → n.d.Ok w (fun k => S k ∧ IsB w k)
  sg : S g
  sv : ∀ k, V.ownBlock = some k → S k
  sb : ∀ n, n ∈ ns → S n.b
  lt : ∀ k, S k → k < w.heap.size
  many : ns.length ≤ 200
section
variable {w w' : World} {g : Nat} {S S' X : Nat → Prop} {fs : List Nat} {V : Value} {ns : List N} {z : Nat}
theorem own_blk {e : TypeId} {v : Value} {base n size k : Nat} {xs : List Value} (h : w.ownsRow base e size v n xs) (hk : v.ownBlock = some k) : ∃ cs fr, w.heap[k]? = some (.cells cs e fr) := by
  rcases h.2 with ⟨rfl, _⟩ | ⟨g', cap, cur, rfl, _, hh, _⟩
  · simp [Value.ownBlock] at hk
  · simp [Value.ownBlock] at hk
    subst hk
    exact ⟨_, _, hh⟩
theorem own_same {e : TypeId} {v : Value} {base n size : Nat} {xs : List Value} (h : w.ownsRow base e size v n xs) (hk : ∀ k, v.ownBlock = some k → w'.heap[k]? = w.heap[k]?) : w'.ownsRow base e size v n xs := by
  refine ⟨h.1, ?_⟩
  rcases h.2 with h0 | ⟨b, cap, cur, hv, hB, hh, r⟩
  · exact .inl h0
  · exact .inr ⟨b, cap, cur, hv, hB, (hk b (by rw [hv]; simp [Value.ownBlock])).trans hh, r⟩
/-- What does not touch the blocks S leaves the list as it is. -/
theorem Lay.same (h : Lay w g S fs V ns z) (hk : ∀ k, S k → w'.heap[k]? = w.heap[k]?) (hs : w.heap.size ≤ w'.heap.size) : Lay w' g S fs V ns z :=
  ⟨h.box.at_block (hk g h.sg), h.fl, own_same h.own fun k hv => hk k (h.sv k hv), fun n hn => (h.nb n hn).at_block (hk _ (h.sb n hn)), h.nh, h.nd,
    fun n hn => (h.ok n hn).later (fun k hk2 => hk k hk2.1) fun k ⟨h1, cs, fr, h2⟩ => ⟨h1, cs, fr, (hk k h1).trans h2⟩, h.sg, h.sv, h.sb, fun k hk2 => Nat.lt_of_lt_of_le (h.lt k hk2) hs, h.many⟩
theorem Lay.keep (h : Lay w g S fs V ns z) (hk : Keep X w w') (hX : ∀ k, S k → ¬ X k) : Lay w' g S fs V ns z := h.same (fun k hs => hk.block k (h.lt k hs) (hX k hs)) hk.size
theorem Lay.below (h : Lay w g S fs V ns z) (hk : Below w.heap.size w w') : Lay w' g S fs V ns z := h.same (fun k hs => hk.block k (h.lt k hs)) hk.size
theorem Lay.more (h : Lay w g S fs V ns z) (hS : ∀ k, S k → S' k) (hl : ∀ k, S' k → k < w.heap.size) : Lay w g S' fs V ns z :=
  ⟨h.box, h.fl, h.own, h.nb, h.nh, h.nd, fun n hn => (h.ok n hn).later (fun _ _ => rfl) fun k hk => ⟨hS k hk.1, hk.2⟩, hS _ h.sg, fun k hk => hS k (h.sv k hk), fun n hn => hS _ (h.sb n hn), hl, h.many⟩
theorem Lay.first (h : Lay w g S fs V ns z) {i : Nat} (hi : i < 12) : w.cell? ⟨g, i, none⟩ = some (.int .i64 ((fs.getD i 0 : Nat) : Int)) := by
  rw [h.box.cell i, List.getElem?_append_left (by simp [h.fl]; exact hi), List.getElem?_map]
  have := h.fl
  rw [List.getElem?_eq_getElem (by omega), List.getD_eq_getElem?_getD, List.getElem?_eq_getElem (by omega)]
  rfl
theorem Lay.rows (h : Lay w g S fs V ns z) : w.cell? ⟨g, 12, none⟩ = some V ∧ w.cell? ⟨g, 13, none⟩ = some (.int .i64 (z : Int)) ∧ w.frozen? ⟨g, 12, none⟩ = false ∧ w.frozen? ⟨g, 13, none⟩ = false := by
  refine ⟨?_, ?_, h.box.free 12, h.box.free 13⟩
  · rw [h.box.cell 12, List.getElem?_append_right (by simp [h.fl])]; simp [h.fl]
  · rw [h.box.cell 13, List.getElem?_append_right (by simp [h.fl])]; simp [h.fl]
theorem Lay.node (h : Lay w g S fs V ns z) {p : Nat} {n : N} (hn : ns[p]? = some n) :
    ∃ (ad q : Addr) (c : Nat), V = .slice (some ad) ns.length c ∧ ns.length ≤ c ∧ c ≤ maxLen ∧ ad.add (p * 5) = q ∧ w.cell? q = some (.slice n.d.ka n.d.k.key.length n.d.kc) ∧ w.cell? ⟨q.block, q.off + 1, none⟩ = some (.int .u64 (n.d.k.seq : Int)) ∧
      w.cell? ⟨q.block, q.off + 2, none⟩ = some (.int .i64 n.d.k.kind) ∧ w.cell? ⟨q.block, q.off + 3, none⟩ = some (.slice n.d.va n.d.val.length n.d.vc) ∧ w.cell? ⟨q.block, q.off + 4, none⟩ = some (.slice (some ⟨n.b, 0, none⟩) n.nx.length n.nx.length) := by
  have hl := (List.getElem?_eq_some_iff.1 hn).1
  obtain ⟨A, c, hv, hc, hm, hlies⟩ := own_parts h.own
  obtain ⟨ad, ha, hb, hcell⟩ := hlies.place (by rw [cellsN_length]; omega)
  subst ha
  have e : ∀ j : Nat, j ≠ 0 → (⟨(ad.add (p * 5)).block, (ad.add (p * 5)).off + j, none⟩ : Addr) = ad.add (p * 5 + j) := by
    intro j hj
    have hne : ¬ p * 5 + j = 0 := by omega
    unfold Addr.add
    rw [if_neg hne]
    split <;> simp <;> omega
  refine ⟨ad, _, c, hv, hc, hm, rfl, hcell _ _ (by have := cellsN_at hn 0 (by omega); simpa [N.cells] using this), ?_, ?_, ?_, ?_⟩
  · rw [e 1 (by decide)]; exact hcell _ _ (by have := cellsN_at hn 1 (by omega); simpa [N.cells] using this)
  · rw [e 2 (by decide)]; exact hcell _ _ (by have := cellsN_at hn 2 (by omega); simpa [N.cells] using this)
  · rw [e 3 (by decide)]; exact hcell _ _ (by have := cellsN_at hn 3 (by omega); simpa [N.cells] using this)
  · rw [e 4 (by decide)]; exact hcell _ _ (by have := cellsN_at hn 4 (by omega); simpa [N.cells] using this)
theorem Lay.link (h : Lay w g S fs V ns z) {p i : Nat} {n : N} (hn : ns[p]? = some n) (hi : i < n.nx.length) : w.cell? ⟨n.b, i, none⟩ = some (.int .i64 ((n.nx.getD i 0 : Nat) : Int)) ∧ w.frozen? ⟨n.b, i, none⟩ = false := by
  have hb := h.nb n (List.mem_of_getElem? hn)
  refine ⟨?_, hb.free i⟩
  rw [hb.cell i, List.getElem?_map, List.getElem?_eq_getElem hi, List.getD_eq_getElem?_getD, List.getElem?_eq_getElem hi]
  rfl
/-- A place from where a search may go on. -/
def Spot (ns : List N) (a i : Nat) : Prop := a = 0 ∨ ∃ n, ns[a - 1]? = some n ∧ i < n.nx.length ∧ 1 ≤ a
set_option maxHeartbeats 400000 in
theorem next_any (a i : Nat) (h : Lay w g S fs V ns z) (hi : i < 12) (ha : Spot ns a i) :
    Calls Try.prog (41) #[.pointer (some ⟨g, 0, none⟩), .int .i64 (a : Int), .int .i64 (i : Int)] w fun e w' => e = .returned (.int .i64 (nxt fs ns a i : Nat)) ∧ w = w' := by
  rcases ha with rfl | ⟨n, hn, hin, ha⟩
  · have c0 := h.first hi
    obtain ⟨v, hv⟩ : ∃ v, v = fs.getD i 0 := ⟨_, rfl⟩
    rw [← hv] at c0
    have E := Lib.hid (show nxt fs ns 0 i = v by unfold nxt; rw [if_pos rfl, hv])
    clear h hv
    go_enter (Try.func41), (Try.ntmps41)
    go_wp2_with fail
    go_ret
    exact ⟨by rw [E.out]; rfl, rfl⟩
  · obtain ⟨p, rfl⟩ : ∃ p, a = p + 1 := ⟨a - 1, by omega⟩
    have hn : ns[p]? = some n := hn
    obtain ⟨ad, q, c, rfl, hc, hm, hq, -, -, -, -, c4⟩ := h.node hn
    obtain ⟨c5, -⟩ := h.link hn hin
    obtain ⟨r0, -, -, -⟩ := h.rows
    obtain ⟨v, hv⟩ : ∃ v, v = n.nx.getD i 0 := ⟨_, rfl⟩
    rw [← hv] at c5
    have E := Lib.hid (show nxt fs ns (p + 1) i = v by unfold nxt; rw [if_neg (by omega)]; show (match ns[p]? with | none => 0 | some n => n.nx.getD i 0) = v; rw [hn, hv])
    have hlen : n.nx.length ≤ 12 := (h.nh n (List.mem_of_getElem? hn)).2
    have hpl : p < ns.length := (List.getElem?_eq_some_iff.1 hn).1
    have hnl := h.many
    clear h hn hv
    go_enter (Try.func41), (Try.ntmps41)
    go_wp2_with fail
    go_ret
    exact ⟨by rw [E.out]; rfl, rfl⟩

set_option maxHeartbeats 4000000 in
theorem entry_any (p : Nat) {n : N} (h : Lay w g S fs V ns z) (hn : ns[p]? = some n) :
    Calls Try.prog (43) #[.pointer (some ⟨g, 0, none⟩), .int .i64 ((p + 1 : Nat) : Int)] w fun e w' => e = .returned n.d.v ∧ Below w.heap.size w w' := by
  have hb0 := Joins.below_alloc1 w zbox
  have hz0 : Bx (w.alloc zbox) w.heap.size dz := Bx.new w dz
  obtain ⟨ad, q, c, rfl, hc, hm, hq, c0, c1, c2, c3, c4⟩ := (h.below hb0).node hn
  obtain ⟨r0, -, -, -⟩ := (h.below hb0).rows
  have hpl : p < ns.length := (List.getElem?_eq_some_iff.1 hn).1
  have hnl := h.many
  have HB := Lib.hid (below_box w n.d)
  have HX := Lib.hid (Bx.new w n.d)
  have hld := D.load c0 c1 c2 c3
  clear h hn hb0 hz0
  go_enter (Try.func43), (Try.ntmps43)
  go_wp2_with fail
  refine bodyPost_ret (results_one rfl Try.underlying36 rfl (by kernel_rfl) _ rfl HX.out) rfl ?_
  exact ⟨rfl, HB.out⟩
end
end Go.Proofs.Ytmnhklfljfglhaa.Sk
