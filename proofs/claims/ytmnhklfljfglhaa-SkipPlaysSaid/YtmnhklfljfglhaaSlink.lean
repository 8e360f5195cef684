/- Package skip: a link is written; an entry is told. -/
import Derived.Test.YtmnhklfljfglhaaSlay
namespace Go.Proofs.Ytmnhklfljfglhaa.Sk
set_option linter.unusedVariables false
set_option linter.unusedSimpArgs false
open Go.RowKit Lift Ik

def setFs (fs : List Nat) (a i v : Nat) : List Nat := if a = 0 then fs.set i v else fs
def setNs (ns : List N) (a i v : Nat) : List N := if a = 0 then ns else match ns[a - 1]? with | none => ns | some n => ns.set (a - 1) { n with nx := n.nx.set i v }
theorem getD_set {l : List Nat} {i j v : Nat} (hi : i < l.length) : (l.set i v).getD j 0 = if j = i then v else l.getD j 0 := by
  rw [List.getD_eq_getElem?_getD, List.getD_eq_getElem?_getD, List.getElem?_set]
  by_cases h : j = i
  · subst h; simp [hi]
  · rw [if_neg h, if_neg fun e => h e.symm]
theorem nxt_set {fs : List Nat} {ns : List N} {a i v : Nat} (hf : fs.length = 12) (hi : i < 12) (ha : Spot ns a i) (a' i' : Nat) : nxt (setFs fs a i v) (setNs ns a i v) a' i' = if a' = a ∧ i' = i then v else nxt fs ns a' i' := by
  rcases ha with rfl | ⟨n, hn, hin, ha⟩
  · have e1 : setFs fs 0 i v = fs.set i v := if_pos rfl
    have e2 : setNs ns 0 i v = ns := if_pos rfl
    rw [e1, e2]
    by_cases h0 : a' = 0
    · subst h0
      have e3 : ∀ l : List Nat, nxt l ns 0 i' = l.getD i' 0 := fun l => if_pos rfl
      rw [e3, e3, getD_set (by omega)]
      simp
    · have e3 : ∀ l : List Nat, nxt l ns a' i' = match ns[a' - 1]? with | none => 0 | some n => n.nx.getD i' 0 := fun l => if_neg h0
      rw [e3, e3, if_neg (fun h => h0 h.1)]
  · have ha0 : ¬ a = 0 := by omega
    have e1 : setFs fs a i v = fs := if_neg ha0
    have e2 : setNs ns a i v = ns.set (a - 1) { n with nx := n.nx.set i v } := by unfold setNs; rw [if_neg ha0, hn]
    rw [e1, e2]
    by_cases h0 : a' = 0
    · have e3 : ∀ l : List N, nxt fs l a' i' = fs.getD i' 0 := fun l => if_pos h0
      rw [e3, e3, if_neg (fun h => ha0 (by omega))]
    · have e3 : ∀ l : List N, nxt fs l a' i' = match l[a' - 1]? with | none => 0 | some n => n.nx.getD i' 0 := fun l => if_neg h0
      rw [e3, e3, List.getElem?_set]
      have hl := (List.getElem?_eq_some_iff.1 hn).1
      by_cases h1 : a' = a
      · subst h1
        rw [if_pos rfl, if_pos hl, hn]
        simp only
        rw [getD_set hin]
        simp
      · rw [if_neg (show ¬ a - 1 = a' - 1 by omega), if_neg (fun h => h1 h.1)]
section
variable {w w' : World} {g : Nat} {S S' X : Nat → Prop} {fs : List Nat} {V : Value} {ns : List N} {z : Nat}
theorem Lay.set0 (h : Lay w g S fs V ns z) {i : Nat} (v : Nat) (hi : i < 12) : Lay (w.setCell ⟨g, i, none⟩ (.int .i64 (v : Int))) g S (fs.set i v) V ns z := by
  have hoff : ∀ k, k ≠ g → (w.setCell ⟨g, i, none⟩ (.int .i64 (v : Int))).heap[k]? = w.heap[k]? := fun k hk => Below.heap_setCell _ _ _ _ hk
  have ne : ∀ {k : Nat} {cs : Array Value} {e : TypeId} {fr : Nat × Nat}, w.heap[k]? = some (.cells cs e fr) → e ≠ Ty.list → k ≠ g := fun hk he e => by
    subst e
    have := h.box
    unfold Lift.Box at this
    rw [hk] at this
    injection this with this
    injection this with _ h2
    exact he h2
  have hb : Lift.Box (w.setCell ⟨g, i, none⟩ (.int .i64 (v : Int))) g Ty.list (ints (fs.set i v) ++ [V, .int .i64 (z : Int)]) := by
    have h1 := h.box.set i (.int .i64 (v : Int))
    have e : (ints fs ++ [V, .int .i64 (z : Int)]).set i (.int .i64 (v : Int)) = ints (fs.set i v) ++ [V, .int .i64 (z : Int)] := by
      rw [List.set_append_left _ _ (by simp [h.fl]; exact hi), ints, ints, List.map_set]
    rw [e] at h1
    exact h1
  refine ⟨hb, by simp [h.fl], own_same h.own fun k hk => ?_, fun n hn => (h.nb n hn).at_block (hoff _ (ne (h.nb n hn) (by decide))), h.nh, h.nd, fun n hn => (h.ok n hn).later (fun k hk => ?_) fun k hk => ?_, h.sg, h.sv, h.sb, fun k hk => by have := h.lt k hk; simpa using this, h.many⟩
  · obtain ⟨cs, fr, hh⟩ := own_blk h.own hk
    exact hoff k (ne hh (by decide))
  · obtain ⟨_, cs, fr, hh⟩ := hk
    exact hoff k (ne hh (by decide))
  · obtain ⟨h1, cs, fr, hh⟩ := hk
    exact ⟨h1, cs, fr, (hoff k (ne hh (by decide))).trans hh⟩
theorem nodup_at {ns : List N} (h : (ns.map N.b).Nodup) {p q : Nat} {n m : N} (hp : ns[p]? = some n) (hq : ns[q]? = some m) (e : n.b = m.b) : p = q := by
  have h1 := (List.getElem?_eq_some_iff.1 hp).1
  have h2 := (List.getElem?_eq_some_iff.1 hq).1
  have hpw := List.pairwise_iff_getElem.1 h
  have e1 : (ns.map N.b)[p]'(by simpa using h1) = n.b := by
    rw [List.getElem_map]
    rw [List.getElem?_eq_getElem h1] at hp
    injection hp with hp
    rw [hp]
  have e2 : (ns.map N.b)[q]'(by simpa using h2) = m.b := by
    rw [List.getElem_map]
    rw [List.getElem?_eq_getElem h2] at hq
    injection hq with hq
    rw [hq]
  rcases Nat.lt_trichotomy p q with hlt | heq | hlt
  · exact absurd (by rw [e1, e2, e]) (hpw p q (by simpa using h1) (by simpa using h2) hlt)
  · exact heq
  · exact absurd (by rw [e1, e2, e]) (hpw q p (by simpa using h2) (by simpa using h1) hlt)
theorem Lay.set1 (h : Lay w g S fs V ns z) {p i : Nat} {n : N} (v : Nat) (hn : ns[p]? = some n) (hi : i < n.nx.length) : Lay (w.setCell ⟨n.b, i, none⟩ (.int .i64 (v : Int))) g S fs V (ns.set p { n with nx := n.nx.set i v }) z := by
  have hoff : ∀ k, k ≠ n.b → (w.setCell ⟨n.b, i, none⟩ (.int .i64 (v : Int))).heap[k]? = w.heap[k]? := fun k hk => Below.heap_setCell _ _ _ _ hk
  have hbox := h.nb n (List.mem_of_getElem? hn)
  have ne : ∀ {k : Nat} {cs : Array Value} {e : TypeId} {fr : Nat × Nat}, w.heap[k]? = some (.cells cs e fr) → e ≠ Ty.int → k ≠ n.b := fun hk he e => by
    subst e
    unfold Lift.Box at hbox
    rw [hk] at hbox
    injection hbox with this
    injection this with _ h2
    exact he h2
  have hl := (List.getElem?_eq_some_iff.1 hn).1
  have hmem : ∀ m, m ∈ ns.set p { n with nx := n.nx.set i v } → (m = { n with nx := n.nx.set i v }) ∨ ∃ q, q ≠ p ∧ ns[q]? = some m := fun m hm => by
    obtain ⟨q, hq⟩ := List.getElem?_of_mem hm
    rw [List.getElem?_set] at hq
    split at hq
    · rename_i e
      subst e
      injection hq with hq
      exact .inl hq.symm
    · rename_i e
      exact .inr ⟨q, fun h0 => e h0.symm, hq⟩
  have hmap : (ns.set p { n with nx := n.nx.set i v }).map N.b = ns.map N.b := by
    rw [List.map_set]
    refine List.ext_getElem? fun q => ?_
    rw [List.getElem?_set]
    split
    · rename_i e
      subst e
      rw [if_pos (by simpa using hl), List.getElem?_map, hn]
      rfl
    · rfl
  refine ⟨h.box.setOther (ne h.box (by decide)).symm.symm _, h.fl, ?_, fun m hm => ?_, fun m hm => ?_, by rw [hmap]; exact h.nd, fun m hm => ?_, h.sg, h.sv, fun m hm => ?_, fun k hk => by have := h.lt k hk; simpa using this, by rw [List.length_set]; exact h.many⟩
  · rw [List.length_set, cellsN_set hn (by simp [N.cells])]
    refine own_same h.own fun k hk => ?_
    obtain ⟨cs, fr, hh⟩ := own_blk h.own hk
    exact hoff k (ne hh (by decide))
  · rcases hmem m hm with rfl | ⟨q, hq, hm⟩
    · have := hbox.set i (.int .i64 (v : Int))
      simp only [ints, List.map_set] at this ⊢
      exact this
    · exact (h.nb m (List.mem_of_getElem? hm)).at_block (hoff _ fun e => hq (nodup_at h.nd hm hn e))
  · rcases hmem m hm with rfl | ⟨q, hq, hm⟩
    · have := h.nh n (List.mem_of_getElem? hn); simpa using this
    · exact h.nh m (List.mem_of_getElem? hm)
  · have hm' : ∃ m', m' ∈ ns ∧ m'.d = m.d := by
      rcases hmem m hm with rfl | ⟨q, hq, hm⟩
      · exact ⟨n, List.mem_of_getElem? hn, rfl⟩
      · exact ⟨m, List.mem_of_getElem? hm, rfl⟩
    obtain ⟨m', h1, h2⟩ := hm'
    rw [← h2]
    refine (h.ok m' h1).later (fun k hk => ?_) fun k hk => ?_
    · obtain ⟨_, cs, fr, hh⟩ := hk
      exact hoff k (ne hh (by decide))
    · obtain ⟨h1, cs, fr, hh⟩ := hk
      exact ⟨h1, cs, fr, (hoff k (ne hh (by decide))).trans hh⟩
  · rcases hmem m hm with rfl | ⟨q, hq, hm⟩
    · exact h.sb n (List.mem_of_getElem? hn)
    · exact h.sb m (List.mem_of_getElem? hm)
set_option maxHeartbeats 400000 in
theorem link_any (a i v : Nat) (h : Lay w g S fs V ns z) (hi : i < 12) (ha : Spot ns a i) :
    Calls Try.prog (45) #[.pointer (some ⟨g, 0, none⟩), .int .i64 (a : Int), .int .i64 (i : Int), .int .i64 (v : Int)] w fun e w' => e = .returned (.tuple #[]) ∧ Lay w' g S (setFs fs a i v) V (setNs ns a i v) z ∧ Keep S w w' ∧ w'.heap.size = w.heap.size := by
  rcases ha with rfl | ⟨n, hn, hin, ha⟩
  · have c0 := h.first hi
    have f0 := h.box.free i
    have HS := Lib.hid (h.set0 v hi)
    have HG := Lib.hid h.sg
    generalize fs.getD i 0 = u at c0
    clear h
    go_enter (Try.func45), (Try.ntmps45)
    go_wp2_with fail
    go_returns
    exact ⟨rfl, by unfold setFs setNs; rw [if_pos rfl, if_pos rfl]; exact HS.out, (Keep.refl S w).setCell (.inr HG.out) _, by simp⟩
  · obtain ⟨p, rfl⟩ : ∃ p, a = p + 1 := ⟨a - 1, by omega⟩
    have hn : ns[p]? = some n := hn
    obtain ⟨ad, q, c, rfl, hc, hm, hq, -, -, -, -, c4⟩ := h.node hn
    obtain ⟨c5, f5⟩ := h.link hn hin
    obtain ⟨r0, -, -, -⟩ := h.rows
    have HS := Lib.hid (h.set1 v hn hin)
    have HG := Lib.hid (h.sb n (List.mem_of_getElem? hn))
    have E := Lib.hid (show setNs ns (p + 1) i v = ns.set p { n with nx := n.nx.set i v } by unfold setNs; rw [if_neg (by omega)]; show (match ns[p]? with | none => ns | some n => ns.set (p + 1 - 1) { n with nx := n.nx.set i v }) = _; rw [hn]; rfl)
    have hlen : n.nx.length ≤ 12 := (h.nh n (List.mem_of_getElem? hn)).2
    have hpl : p < ns.length := (List.getElem?_eq_some_iff.1 hn).1
    have hnl := h.many
    generalize n.nx.getD i 0 = u at c5
    clear h hn
    go_enter (Try.func45), (Try.ntmps45)
    go_wp2_with fail
    go_returns
    exact ⟨rfl, by unfold setFs; rw [if_neg (by omega), E.out]; exact HS.out, (Keep.refl S w).setCell (.inr HG.out) _, by simp⟩
/-- What a call tells of an entry, or that there is none: it lies in new memory. -/
def Told (w : World) (o : Option T) (e : Ending) (w' : World) : Prop :=
  ∃ d : D, e = .returned (.tuple #[d.v, .bool o.isSome]) ∧ d.t = o.getD ⟨⟨[], 0, 0⟩, []⟩ ∧ d.Ok w' (Fresh w.heap.size w') ∧ Below w.heap.size w w'
theorem dz_ok (w : World) (R : Nat → Prop) : dz.Ok w R := ⟨.inl rfl, Nat.le_refl _, by decide, ⟨by simp, by decide, by decide, by decide⟩, .inl rfl, Nat.le_refl _, by decide, by simp⟩
set_option maxHeartbeats 400000 in
theorem found_none (h : Lay w g S fs V ns z) : Calls Try.prog (77) #[.pointer (some ⟨g, 0, none⟩), .int .i64 0] w (Told w none) := by
  have HB := Lib.hid (below_box w dz)
  have HX := Lib.hid (Bx.new w dz)
  clear h
  go_enter (Try.func77), (Try.ntmps77)
  go_wp2_with fail
  refine bodyPost_ret (results_box rfl Try.underlying36 (by kernel_rfl) _ rfl HX.out) rfl ?_
  exact ⟨dz, rfl, rfl, dz_ok _ _, HB.out⟩
set_option maxHeartbeats 800000 in
theorem found_some (p : Nat) {n : N} (h : Lay w g S fs V ns z) (hn : ns[p]? = some n) (hs : small n.d) : Calls Try.prog (77) #[.pointer (some ⟨g, 0, none⟩), .int .i64 ((p + 1 : Nat) : Int)] w (Told w (some n.d.t)) := by
  have hb0 := below_box w dz
  have hz0 : Bx (w.alloc zbox) w.heap.size dz := Bx.new w dz
  have he := entry_any p (h.below hb0) hn
  have HE := Lib.hid he
  have HZ := Lib.hid hz0
  have HB := Lib.hid hb0
  have HD := Lib.hid ((h.ok n (List.mem_of_getElem? hn)).later (R' := (· < w.heap.size)) (fun _ _ => rfl) fun k hk => h.lt k hk.1)
  clear h hn he hz0 hb0
  go_enter (Try.func77), (Try.ntmps77)
  go_wp2_with fail
  refine HE.out.mono ?_
  rintro e W1 ⟨rfl, hb1⟩
  have HB1 := Lib.hid (HB.out.trans (hb1.mono HB.out.size))
  have HZ1 : Hid (Bx W1 w.heap.size dz) := Lib.hid (HZ.out.below hb1 HZ.out.lt)
  have HC := Lib.hid (sclone_any n.d W1 (HD.out.next HB1.out) hs)
  clear hb1 HE HZ
  go_wp2_with fail
  refine HC.out.mono ?_
  rintro e W2 ⟨d', rfl, ht, hok, hb2⟩
  have hz2 : Bx W2 w.heap.size dz := HZ1.out.below hb2 HZ1.out.lt
  obtain ⟨z0, z1, z2, z3, f0, f1, f2, f3⟩ := hz2.facts
  have HZ2 := Lib.hid hz2
  have HT := Lib.hid ht
  have HO := Lib.hid hok
  have HB2 := Lib.hid (HB1.out.trans (hb2.mono HB1.out.size))
  have HS1 := Lib.hid HB1.out.size
  clear hz2 ht hok hb2 HC
  go_wp2_with fail
  have hbx : Bx (put W2 w.heap.size d') w.heap.size d' := put_box _ HZ2.out
  refine bodyPost_ret (results_box rfl Try.underlying36 (by kernel_rfl) _ rfl hbx) rfl ?_
  refine ⟨d', rfl, HT.out, HO.out.later (fun k hk => put_off _ _ _ _ ?_) fun k hk => ?_, put_below HB2.out (Nat.le_refl _) _⟩
  · have := hk.1; have := HZ1.out.lt; omega
  · obtain ⟨h1, h2, cs, fr, h3⟩ := hk
    exact ⟨Nat.le_trans HS1.out h1, by rw [put_size]; exact h2, cs, fr, (put_off _ _ _ _ (by have := HZ1.out.lt; omega)).trans h3⟩
end
end Go.Proofs.Ytmnhklfljfglhaa.Sk
