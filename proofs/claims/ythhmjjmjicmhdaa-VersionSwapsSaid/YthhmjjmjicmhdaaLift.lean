/- A law whose call, in every world, answers true and leaves all old memory alone fulfils its row: the step from the walk to the row, once for all laws; slices of whole numbers as lists. -/
import Derived.WalkKit
import Derived.ProofKit
import Derived.OpenShut
import Derived.Below
import Derived.WideKeyArgs
import Derived.SizedLaws
import Derived.ChangeSlices
import Derived.ChangeSame
import Derived.ChangeOld
import Derived.Laws.OwnMore
import Derived.Deep.Draws
import Derived.Lib.Hide
import Derived.Laws.CopyOwn
import Derived.Laws.CopyRow
import Derived.Laws.IdiomCopy
import Derived.OwnWalk
import Derived.DataShut
import Derived.Deep.RegionHeld3
import Derived.Laws.BytesString
import Derived.BigFrame
import Derived.Laws.Rows
import Derived.Laws.MakeOwn
namespace Go.Proofs.Ythhmjjmjicmhdaa.Lift
open Go.ChangeShapes Go.WideShapes Go.ChangeAt Go.RowKit Go.WideElems

section
variable {H : Type} {enc : TypeId × Value → H} {P : Program}

theorem trodAll_stays (hl : laidOutB P = true) {W W' : World} {sp' : Nat → Bool} : ∀ (ts : List TypeId) (vs : List Value) (ds : List (DataW H)) (p : List MemPlace),
    (∀ t, t ∈ ts → P.readableRec t = true ∧ t < P.types.size) → DataW.TrodAll enc P W 0 (fun _ => true) true ts vs ds p →
    (∀ x, x ∈ p → W.sameAt W' x) → (∀ x, x ∈ p → sp' x.block = true) → DataW.TrodAll enc P W' 0 sp' true ts vs ds p := by
  intro ts
  induction ts with
  | nil =>
    intro vs ds p _ h _ _
    cases vs <;> cases ds <;> simp [DataW.TrodAll] at h ⊢
    exact h
  | cons t ts ih =>
    intro vs ds p ht h hs hb
    obtain ⟨v, vs', d, ds', q, r, rfl, rfl, rfl, h1, h2⟩ := trodAll_cons h
    refine ⟨q, r, ?_, ?_, rfl⟩
    · exact Trod_stays hl (ht t (by simp)).1 (ht t (by simp)).2 h1 (fun x hx => hs x (by simp [hx])) (fun x hx => hb x (by simp [hx]))
    · exact ih vs' ds' r (fun u hu => ht u (by simp [hu])) h2 (fun x hx => hs x (by simp [hx])) (fun x hx => hb x (by simp [hx]))

theorem post_true {f : Func} {s : ChangeSpec} {W W' : World} {args : Array Value} {ds : List (DataW H)} {tb : TypeId}
    (hl : laidOutB P = true) (hr : ∀ t, t ∈ f.params.toList → P.readableRec t = true ∧ t < P.types.size) (hres : f.resultTypes = #[tb]) (htb : P.underlying tb = some .bool)
    (hvars : s.vars = []) (hfn : (s.fn H (ds ++ [])).results = [.lit (.bool true)] ∧ (s.fn H (ds ++ [])).args = ds ∧ (s.fn H (ds ++ [])).vars = [])
    {p : List MemPlace} (hW : DataW.Whole enc P f.params.toList s.vars false W args.toList ds [] p)
    (hA : DataW.TrodAll enc P W 0 (fun _ => true) true f.params.toList args.toList ds p) (hb : Below W.heap.size W W') :
    s.post enc P f false true false false W args (.bool true) W' := by
  have hlt : ∀ x, x ∈ p → x.block < W.heap.size := fun x hx => hW.lt x hx
  obtain ⟨h1, h2, h3⟩ := hfn
  refine ⟨ds, [], p, [], p, [], hW, ?_, ?_, ?_, ?_, fun h => by cases h⟩
  · rw [h1, hres]
    exact trodAll_cons_mk (shut_bool htb true) trodAll_mk0
  · rw [h2]
    exact trodAll_stays hl _ _ _ _ hr hA (fun x hx => hb.same (hlt x hx)) (fun x hx => by simpa using hlt x hx)
  · rw [h3, hvars]
    rfl
  · exact hb.frame _

/-- The step from the walk to the row. -/
theorem lift_true {C : Checked} {os : Os} {f : FuncId} {fn : Func} {s : ChangeSpec} {conds : List PathCond} {tb : TypeId}
    (own : ownKnob C.prog.godebug = none) (started : os.Started) (noInit : C.prog.inits.idxOf? f = none) (hfn : C.prog.funcs[f]? = some fn)
    (witness : ∃ (w : World) (tape : Tape) (i : Input), w.os = os ∧ (w.forCall tape i).Shaped C.prog ∧ i.vars = [] ∧ Input.okWide C.prog (w.forCall tape i) .any w.heap.size f i ∧
      s.pre6 enc C.prog fn conds false (w.forCall tape i).memory i.args ∧ ({} : Assume).holds C.prog (lone (Frame.enter C.prog f i.args .normal) [] (w.forCall tape i)))
    (hl : laidOutB C.prog = true) (hr0 : (fn.params.toList.all fun t => C.prog.readableRec t && decide (t < C.prog.types.size)) = true) (hres : fn.resultTypes = #[tb]) (htb : C.prog.underlying tb = some .bool)
    (hvars : s.vars = [])
    (hs : ∀ ds : List (DataW H), ds.length = fn.params.size → (s.fn H (ds ++ [])).results = [.lit (.bool true)] ∧ (s.fn H (ds ++ [])).args = ds ∧ (s.fn H (ds ++ [])).vars = [])
    (walk : ∀ (W : World) (base : Nat) (args : Array Value) (ds : List (DataW H)) (p : List MemPlace),
      (∀ (j : Nat) t v, fn.params[j]? = some t → args[j]? = some v → Value.okWide C.prog W .any base t v) →
      DataW.TrodAll enc C.prog W 0 (fun _ => true) true fn.params.toList args.toList ds p → (∀ x, x ∈ p → x.block < W.heap.size) →
      (DataW.weightsEach C.prog fn.params.toList ds).all (· ≤ reachBytes) = true →
      Calls C.prog f args W fun e W' => e = .returned (.bool true) ∧ Below W.heap.size W W') :
    ReturnsInHanded {} C os f .any (s.pre6 enc C.prog fn conds false) (s.post enc C.prog fn false true false false) := by
  have hr : ∀ t, t ∈ fn.params.toList → C.prog.readableRec t = true ∧ t < C.prog.types.size := fun t ht => by
    have := List.all_eq_true.1 hr0 t ht
    rw [Bool.and_eq_true, decide_eq_true_eq] at this
    exact this
  refine returnsInHanded_of_change_sized own started noInit hfn witness ?_
  intro W base args ds gs before hval hW _ hwt _
  have hW' := hW
  obtain ⟨p, q, hA, hV, rfl, _, _⟩ := hW
  rw [hvars] at hV
  obtain ⟨rfl, rfl⟩ := trodVars_none hV
  have hlen : ∀ (ts : List TypeId) (vs : List Value) (es : List (DataW H)) (r : List MemPlace), DataW.TrodAll enc C.prog W 0 (fun _ => true) true ts vs es r → es.length = ts.length := by
    intro ts
    induction ts with
    | nil =>
      intro vs es r h
      cases vs <;> cases es <;> simp [DataW.TrodAll] at h ⊢
    | cons t ts ih =>
      intro vs es r h
      obtain ⟨_, vs', _, es', _, r', rfl, rfl, _, _, h2⟩ := trodAll_cons h
      simp [ih vs' es' r' h2]
  have hplt : ∀ x, x ∈ p → x.block < W.heap.size := fun x hx => hW'.lt x (by simpa using hx)
  have hty : s.plain.varTypes C.prog = [] := by simp [ChangeSpec.plain, hvars, DataSpec.varTypes]
  refine (walk W base args ds p hval hA hplt ?_).mono fun e W' ⟨he, hb⟩ => ⟨_, he, ?_⟩
  · simpa [hty] using hwt
  · simp only [List.append_nil] at hW'
    exact post_true hl hr hres htb hvars (hs ds (by rw [hlen _ _ _ _ hA]; simp)) hW' hA hb
end

/-- The slice with address A holds the cells xs, in blocks below B. -/
def Lies (w : World) (B : Nat) (A : Option Addr) (xs : List Value) : Prop :=
  xs = [] ∨ ∃ ad, A = some ad ∧ ad.block < B ∧ ∀ j u, xs[j]? = some u → w.cell? (ad.add j) = some u

section
variable {w w' : World} {B : Nat} {A : Option Addr} {xs : List Value}
theorem Lies.later (h : Lies w B A xs) (hk : ∀ p : Addr, p.block < B → w'.cell? p = w.cell? p) : Lies w' B A xs := by
  rcases h with h | ⟨ad, ha, hb, hc⟩
  · exact .inl h
  · refine .inr ⟨ad, ha, hb, fun j u hu => (hk _ ?_).trans (hc j u hu)⟩
    unfold Addr.add
    split <;> exact hb
theorem Lies.below (h : Lies w B A xs) (hb : Below B w w') : Lies w' B A xs := h.later fun _ hp => hb.cell hp
theorem Lies.up {B' : Nat} (h : Lies w B A xs) (hB : B ≤ B') : Lies w B' A xs := by
  rcases h with h | ⟨ad, ha, hb, hc⟩
  · exact .inl h
  · exact .inr ⟨ad, ha, Nat.lt_of_lt_of_le hb hB, hc⟩
theorem Lies.place (h : Lies w B A xs) (hn : 0 < xs.length) : ∃ ad, A = some ad ∧ ad.block < B ∧ ∀ j u, xs[j]? = some u → w.cell? (ad.add j) = some u := by
  rcases h with h | h
  · subst h; simp at hn
  · exact h
theorem Lies.front {ys : List Value} (h : Lies w B A xs) (hp : ys <+: xs) : Lies w B A ys := by
  rcases h with rfl | ⟨ad, ha, hb, hc⟩
  · exact .inl (List.prefix_nil.1 hp)
  · refine .inr ⟨ad, ha, hb, fun j u hj => hc j u ?_⟩
    obtain ⟨t, rfl⟩ := hp
    rw [List.getElem?_append_left (List.getElem?_eq_some_iff.1 hj).1]
    exact hj
theorem Lies.of_own {base : Nat} {e : TypeId} {size n c : Nat} (h : w.ownsRow base e size (.slice A n c) n xs) : Lies w w.heap.size A xs := by
  rcases h.2 with ⟨_, h0⟩ | ⟨g, cap, cur, hv, _, hh, _⟩
  · left
    have := h.1
    rw [h0] at this
    exact List.eq_nil_of_length_eq_zero (by simpa using this)
  · right
    injection hv with hA
    subst hA
    refine ⟨_, rfl, ?_, h.cells (g := g) rfl⟩
    rcases Nat.lt_or_ge g w.heap.size with hlt | hge
    · exact hlt
    · rw [Array.getElem?_eq_none hge] at hh; cases hh
end

theorem add_add (a : Addr) (i j : Nat) : (a.add i).add j = a.add (i + j) := by
  by_cases hi : i = 0
  · subst hi; simp [Addr.add]
  · by_cases hj : j = 0
    · subst hj; simp [Addr.add]
    · simp [Addr.add, hi, hj]; omega

theorem own_parts {w : World} {base n size : Nat} {e : TypeId} {v : Value} {xs : List Value} (h : w.ownsRow base e size v n xs) :
    ∃ A c, v = .slice A n c ∧ n ≤ c ∧ c ≤ maxLen ∧ Lies w w.heap.size A xs := by
  have h' := h
  rcases h.2 with ⟨rfl, h0⟩ | ⟨g, cap, cur, rfl, _, _, hnc, hcm, _⟩
  · subst h0
    exact ⟨none, 0, rfl, Nat.le_refl _, by decide, Lies.of_own h'⟩
  · exact ⟨_, cap, rfl, hnc, hcm, Lies.of_own h'⟩

/-- The built-in copy into a block whose cells are known. -/
theorem run_copy_fresh {P : Program} {w : World} {B : Nat} {A : Option Addr} {cs : List Value} (dT sT ty elem : TypeId) (hu : P.underlying dT = some (.slice elem)) (hs : (P.info? elem).map (·.size) = some 1)
    (g dLen dCap sLen sCap : Nat) (cur : List Value) (t : TypeId) (hg : w.heap[g]? = some (.cells cur.toArray t (0, 0))) (hl : Lies w B A cs) (hn : cs.length = Nat.min sLen dLen) (hfit : cs.length ≤ cur.length)
    (h1 : ∀ v, v ∈ cs → v.oneCell' = true) :
    ∃ w2, Sem.run P (Builtin.copy_ #[dT, sT] ty #[.slice (some ⟨g, 0, none⟩) dLen dCap, .slice A sLen sCap]) w = .ok (.int .i64 (cs.length : Int)) w2 ∧
      w2.heap[g]? = some (.cells (splice cur 0 cs).toArray t (0, 0)) ∧ Below g w w2 ∧ w2.heap.size = w.heap.size := by
  by_cases h0 : cs.length = 0
  · have hcs : cs = [] := List.eq_nil_of_length_eq_zero h0
    refine ⟨w, ?_, ?_, Below.refl _ _, rfl⟩
    · rw [h0]; exact run_copy_none (P := P) w dT sT ty elem _ _ _ _ _ _ hu hs (by omega)
    · rw [hg, hcs]; simp [splice]
  · obtain ⟨ad, rfl, _, hc⟩ := hl.place (by omega)
    refine ⟨_, run_copy_row P w dT sT ty elem g 0 dLen dCap ad sLen sCap cur.toArray t cs hu hs hg hn hc (by simpa using hfit) h1, ?_, ?_, ?_⟩
    · rw [setRow_heap w g _ _ t (0, 0) hg]; simp [splice]
    · exact below_setRow (Below.refl _ _) (Nat.le_refl _) _
    · simp

/-- append(out, x): one cell onto a slice of the call's own. -/
theorem run_append_one {P : Program} {w : World} {base n : Nat} {v u : Value} {xs : List Value} (t ty e : TypeId) (z : Value) (bytes : Nat) (ht : P.underlying t = some (.slice e))
    (hinfo : (P.info? e).map (fun i => (i.zero, i.size, i.bytes)) = some (some z, 1, bytes)) (hz : z.cells.size = 1) (hu : u.oneCell' = true)
    (hown : w.ownsRow base e 1 v n xs) (h63 : n + 1 ≤ maxLen) (hbytes : (n + 1) * bytes ≤ 140737488355328) (hbase : base ≤ w.heap.size) :
    ∃ v' w', Sem.run P (Builtin.append_ #[t, t] ty #[v, .slice (some ⟨w.heap.size, 0, none⟩) 1 1]) (w.alloc (.cells #[u] e)) = .ok v' w' ∧ w'.ownsRow base e 1 v' (n + 1) (xs ++ [u]) ∧ Below base w w' ∧
      w.heap.size < w'.heap.size := by
  obtain ⟨i, hi, hz0, hs, hb⟩ := info_parts hinfo
  obtain ⟨v', w', hrun, h1, h2, _⟩ := run_append_own (P := P) (w.alloc (.cells #[u] e)) base t ty e i z 1 bytes ht hi hz0 hs hb hz (by decide) v n xs (hown.alloc _) ⟨w.heap.size, 0, none⟩ 1 1 [u] rfl
    (fun j x hj => by
      rcases j with _ | j
      · simp at hj; subst hj
        exact World.cell?_alloc_new w #[u] e 0
      · simp at hj)
    (fun x hx => by simp at hx; subst hx; exact hu) h63 hbytes (by simp; omega)
  refine ⟨v', w', hrun, h1, (((Below.refl base w).alloc hbase _).grown h2 (by simp; omega) fun k hk => (hown.lt k hk).1), ?_⟩
  have := h2.size
  simp at this
  omega

/-- append(out, xs...): the cells of a slice, whatever it is, onto a slice of the call's own. -/
theorem run_append_lies {P : Program} {w : World} {base B n m c : Nat} {v : Value} {xs cs : List Value} {A : Option Addr} (t ty e : TypeId) (z : Value) (size bytes : Nat) (ht : P.underlying t = some (.slice e))
    (hinfo : (P.info? e).map (fun i => (i.zero, i.size, i.bytes)) = some (some z, size, bytes)) (hz : z.cells.size = size) (hsz : 0 < size) (hu : ∀ u, u ∈ cs → u.oneCell' = true)
    (hown : w.ownsRow base e size v n xs) (hl : Lies w B A cs) (hm : cs.length = m * size) (h63 : n + m ≤ maxLen) (hbytes : (n + m) * bytes ≤ 140737488355328) (hbase : base ≤ w.heap.size) :
    ∃ v' w', Sem.run P (Builtin.append_ #[t, t] ty #[v, .slice A m c]) w = .ok v' w' ∧ w'.ownsRow base e size v' (n + m) (xs ++ cs) ∧ Below base w w' ∧ w.heap.size ≤ w'.heap.size := by
  obtain ⟨i, hi, hz0, hs, hb⟩ := info_parts hinfo
  have some_ : ∀ ad : Addr, (∀ j u, cs[j]? = some u → w.cell? (ad.add j) = some u) →
      ∃ v' w', Sem.run P (Builtin.append_ #[t, t] ty #[v, .slice (some ad) m c]) w = .ok v' w' ∧ w'.ownsRow base e size v' (n + m) (xs ++ cs) ∧ Below base w w' ∧ w.heap.size ≤ w'.heap.size := by
    intro ad hc
    obtain ⟨v', w', hrun, h1, h2, _⟩ := run_append_own (P := P) w base t ty e i z size bytes ht hi hz0 hs hb hz hsz v n xs hown ad m c cs hm hc hu h63 hbytes hbase
    exact ⟨v', w', hrun, h1, (Below.refl base w).grown h2 hbase (fun k hk => (hown.lt k hk).1), h2.size⟩
  rcases hl with rfl | ⟨ad, rfl, _, hc⟩
  · have hm0 : m = 0 := by
      simp only [List.length_nil] at hm
      rcases Nat.eq_zero_or_pos m with h | h
      · exact h
      · have := Nat.mul_pos h hsz; omega
    subst hm0
    rcases A with _ | ad
    · refine ⟨v, w, ?_, by simpa using hown, Below.refl _ _, Nat.le_refl _⟩
      rcases hown.2 with ⟨rfl, rfl⟩ | ⟨g, cap, cur, rfl, _, _, hnc, _⟩
      · simp [Builtin.append_, run_underlying ht, sizeOf, typeInfo, hi, Builtin.lenOf, Builtin.firstCells]
      · simp [Builtin.append_, run_underlying ht, sizeOf, typeInfo, hi, Builtin.lenOf, Builtin.firstCells, hnc, storeCells]
    · exact some_ ad (by simp)
  · exact some_ ad hc

/-- The walk's step at an append of which the outcome is known. -/
theorem wpList_append_run {P : Program} {w w' : World} {v u v' : Value} {ops : Array Oper} {rest : List Oper} {o : Oper} {a : Act} {Q : Exit → Act → World → Prop} (hgd : o.guard = none) (s x : Operand) (t : TypeId)
    (ho : o.op = .call { callee := .builtin .append, args := #[s, x], argTypes := #[t, t] }) (hs : a.eval s = v) (hx : a.eval x = u)
    (hrun : Sem.run P (Builtin.append_ #[t, t] o.type #[v, u]) w = .ok v' w') (h : wpList P ops Q rest (a.put o.dst v') w') : wpList P ops Q (o :: rest) a w :=
  wpList_plain hgd fun _ hK => by
    unfold Oper.wp execOp
    simp only [ho, resolve, invoke, builtin, Sem.run_bind, Sem.run_pure, Result.andThen_ok, List.map_toArray, List.map_cons, List.map_nil, hs, hx, hrun]
    exact hK _ _ h

/-- The same where the append stands behind a guard that holds. -/
theorem wpList_append_held {P : Program} {w w' : World} {v u v' : Value} {ops : Array Oper} {rest : List Oper} {o : Oper} {a : Act} {Q : Exit → Act → World → Prop} (hw : Region.wanted o (yielded ops a.tmps) = true) (s x : Operand) (t : TypeId)
    (ho : o.op = .call { callee := .builtin .append, args := #[s, x], argTypes := #[t, t] }) (hs : a.eval s = v) (hx : a.eval x = u)
    (hrun : Sem.run P (Builtin.append_ #[t, t] o.type #[v, u]) w = .ok v' w') (h : wpList P ops Q rest (a.put o.dst v') w') : wpList P ops Q (o :: rest) a w :=
  BigFrame.wpList_want hw fun _ hK => by
    unfold Oper.wp execOp
    simp only [ho, resolve, invoke, builtin, Sem.run_bind, Sem.run_pure, Result.andThen_ok, List.map_toArray, List.map_cons, List.map_nil, hs, hx, hrun]
    exact hK _ _ h

/-- In the middle of a region whose order is open, what is known of all worlds to come may be known more closely. -/
theorem wpAnyH_other {P : Program} {md : Region.Mode} {ops : Array Oper} {Q : Exit → Act → World → Prop} {S S' : World → Prop} (hSS : ∀ w, S' w → S w) :
    ∀ (fuel : Nat) (listed : Array Bool) (a : Act) (w : World), wpAnyH P md ops Q S' fuel listed a w → wpAnyH P md ops Q S fuel listed a w
  | 0, _, _, _, h => h
  | fuel + 1, _, _, _, h => ⟨h.1, fun i hi => wpOp_mono (fun a' w' h' => ⟨hSS w' h'.1, wpAnyH_other hSS fuel _ a' w' h'.2⟩) (h.2 i hi)⟩

/-- Bytes as a string. -/
def str (bs : List Nat) : ByteArray := (bs.map fun b : Nat => (b : Int)).foldl (fun r n => r.push (UInt8.ofNat n.toNat)) ByteArray.empty
theorem run_string_lies {P : Program} {w : World} {B c : Nat} {A : Option Addr} {bs : List Nat} (src dst e : TypeId) (hs : P.underlying src = some (.slice e)) (he : P.underlying e = some (.int .u8)) (hd : P.underlying dst = some .string)
    (hl : Lies w B A (bs.map fun b : Nat => Value.int .u8 (b : Int))) : Sem.run P (convert src dst (.slice A bs.length c)) w = .ok (.string (str bs)) w := by
  rw [run_convert_bytes_string w src dst e A bs.length c hs he hd]
  have some_ : ∀ ad : Addr, (∀ j u, (bs.map fun b : Nat => Value.int .u8 (b : Int))[j]? = some u → w.cell? (ad.add j) = some u) → Sem.run P (Conv.bytesToString (.slice (some ad) bs.length c)) w = .ok (.string (str bs)) w := by
    intro ad hc
    refine run_bytesToString w ad bs.length c (bs.map fun b : Nat => (b : Int)) ?_
    have h := run_loadCells_list (P := P) w ad _ hc
    rw [List.length_map] at h
    rw [h, List.map_map]
    rfl
  rcases hl with h0 | ⟨ad, rfl, _, hc⟩
  · have hb : bs = [] := by simpa using h0
    subst hb
    rcases A with _ | ad
    · simp [Conv.bytesToString, str]
    · exact some_ ad (by simp)
  · exact some_ ad hc
theorem u8_of {n : Int} (h : (Lit.int .u8 n).wf = true) : 0 ≤ n ∧ n ≤ 255 := by
  rw [Lit.wf_int_iff, show IntKind.u8.min = 0 by decide +kernel, show IntKind.u8.max = 255 by decide +kernel] at h; exact h
theorem u32_of {n : Int} (h : (Lit.int .u32 n).wf = true) : 0 ≤ n ∧ n ≤ 4294967295 := by
  rw [Lit.wf_int_iff, show IntKind.u32.min = 0 by decide +kernel, show IntKind.u32.max = 4294967295 by decide +kernel] at h; exact h
theorem u64_of {n : Int} (h : (Lit.int .u64 n).wf = true) : 0 ≤ n ∧ n ≤ 18446744073709551615 := by
  rw [Lit.wf_int_iff, show IntKind.u64.min = 0 by decide +kernel, show IntKind.u64.max = 18446744073709551615 by decide +kernel] at h; exact h
theorem i64_of {n : Int} (h : (Lit.int .i64 n).wf = true) : -9223372036854775808 ≤ n ∧ n ≤ 9223372036854775807 := by
  rw [Lit.wf_int_iff, show IntKind.i64.min = -9223372036854775808 by decide +kernel, show IntKind.i64.max = 9223372036854775807 by decide +kernel] at h; exact h
/-- Whole numbers that are not below nothing, as such. -/
theorem as_nat (zs : List Int) (h : ∀ n, n ∈ zs → 0 ≤ n) : ∃ bs : List Nat, zs = bs.map (fun b : Nat => (b : Int)) ∧ ∀ b, b ∈ bs → (b : Int) ∈ zs := by
  refine ⟨zs.map Int.toNat, ?_, ?_⟩
  · rw [List.map_map]
    conv => lhs; rw [← List.map_id zs]
    refine List.map_congr_left fun n hn => ?_
    have := h n hn
    show n = ((n.toNat : Nat) : Int)
    omega
  · intro b hb
    obtain ⟨n, hn, rfl⟩ := List.mem_map.1 hb
    have := h n hn
    rw [Int.toNat_of_nonneg this]
    exact hn

/-- A parameter that is a slice of whole numbers, as it comes in. -/
theorem open_nums {H : Type} {enc : TypeId × Value → H} {P : Program} {W : World} {t e : TypeId} {k : IntKind} {v : Value} {d : DataW H} {p : List MemPlace} {base : Nat}
    (ht : P.underlying t = some (.slice e)) (he : P.underlying e = some (.int k)) (hc : P.cellsOf e = 1) (hok : Value.okWide P W .any base t v)
    (h : DataW.Trod enc P W 0 (fun _ => true) true t v d p) (hlt : ∀ x, x ∈ p → x.block < W.heap.size) :
    ∃ (A : Option Addr) (c : Nat) (zs : List Int), v = .slice A zs.length c ∧ zs.length ≤ c ∧ c ≤ maxLen ∧ Lies W W.heap.size A (zs.map (Value.int k)) ∧ ∀ n, n ∈ zs → (Lit.int k n).wf = true := by
  obtain ⟨a0, len, cap, rfl⟩ := okWide_slice ht hok
  obtain ⟨fuel, hf⟩ := h
  rcases open_ints ht he hc hf with ⟨hcs, hx⟩ | ⟨a, len', cap', zs, hcs, _, hl, hm, hz, hx, hcell, hwz⟩
  · simp [Value.cells] at hcs
    obtain ⟨rfl, rfl, rfl⟩ := hcs
    exact ⟨none, 0, [], rfl, Nat.le_refl _, by decide, .inl rfl, by simp⟩
  · simp [Value.cells] at hcs
    obtain ⟨rfl, rfl, rfl⟩ := hcs
    simp only [Prod.mk.injEq] at hx
    obtain ⟨rfl, rfl⟩ := hx
    simp only [if_true] at hz
    refine ⟨some a, cap, zs.take len, ?_, ?_, hm, ?_, fun n hn => hwz n (List.mem_of_mem_take hn)⟩
    · rw [List.length_take, Nat.min_eq_left (by omega)]
    · rw [List.length_take, Nat.min_eq_left (by omega)]; exact hl
    · by_cases h0 : zs.length = 0
      · left
        rw [List.eq_nil_of_length_eq_zero h0]
        simp
      · right
        refine ⟨a, rfl, ?_, fun j u hu => ?_⟩
        · exact hlt (.cell a.block (a.off + 0)) (by unfold MemPlace.row; exact List.mem_map.2 ⟨0, by simp; omega, rfl⟩)
        · rw [List.getElem?_map] at hu
          obtain ⟨n, hn, rfl⟩ := Option.map_eq_some_iff.1 hu
          have hj : j < (zs.take len).length := (List.getElem?_eq_some_iff.1 hn).1
          rw [List.length_take] at hj
          rw [List.getElem?_take_of_lt (by omega)] at hn
          rw [hcell j (by omega), List.getD_eq_getElem?_getD, hn]
          rfl

/-- The block g of n cells, of which the first k are filled as L says. -/
def Filled (w : World) (g n k : Nat) (T : TypeId) (L : List Value) : Prop := ∃ cur : List Value, w.heap[g]? = some (.cells cur.toArray T (0, 0)) ∧ cur.length = n ∧ cur.take k = L.take k
section
variable {w : World} {g n k : Nat} {T : TypeId} {L : List Value}
theorem Filled.start (w : World) (z : Value) (n : Nat) (T : TypeId) (L : List Value) : Filled (w.alloc (.cells (madeCells #[z] n) T)) w.heap.size n 0 T L :=
  ⟨(madeCells #[z] n).toList, by rw [Array.toArray_toList]; exact heap_alloc_new w _, by rw [toList_madeCells_one]; simp, by simp⟩
theorem Filled.next {v : Value} (h : Filled w g n k T L) (hk : k < n) (hv : L[k]? = some v) : Filled (w.setCell ⟨g, k, none⟩ v) g n (k + 1) T L := by
  obtain ⟨cur, h1, h2, h3⟩ := h
  refine ⟨cur.set k v, ?_, by simpa using h2, ?_⟩
  · rw [heap_setCell_same w g k _ _ _ h1]; simp
  · rw [List.take_add_one, List.take_add_one, List.take_set_of_le (Nat.le_refl k), h3, hv, List.getElem?_set_self (by omega)]
theorem Filled.cell {j : Nat} (h : Filled w g n k T L) (hj : j < n) : ∃ u, w.cell? ⟨g, j, none⟩ = some u := by
  obtain ⟨cur, h1, h2, h3⟩ := h
  exact ⟨cur[j]'(by omega), by simp [World.cell?, h1]⟩
theorem Filled.free (h : Filled w g n k T L) (j : Nat) : w.frozen? ⟨g, j, none⟩ = false := by
  obtain ⟨cur, h1, _⟩ := h
  exact frozen_of_row w g j _ _ h1
theorem Filled.drew (h : Filled w g n k T L) : Filled w.drew g n k T L := h
theorem Filled.own {B : Nat} (h : Filled w g n n T L) (hB : B ≤ g) (hL : L.length = n) (hm : n ≤ maxLen) : w.ownsRow B T 1 (.slice (some ⟨g, 0, none⟩) n n) n L := by
  obtain ⟨cur, h1, h2, h3⟩ := h
  rw [List.take_of_length_le (by omega), List.take_of_length_le (by omega)] at h3
  subst h3
  refine ⟨by omega, .inr ⟨g, n, _, rfl, hB, h1, Nat.le_refl _, hm, ?_, ?_⟩⟩
  · simp [h2]
  · simp only [Nat.mul_one]
    exact List.take_of_length_le (by omega)
end

/-- An append of which the outcome is known, as it comes up in a region whose order is open (behind 'AllReadyH.cons'). -/
theorem held_append {P : Program} {w w' : World} {v u v' : Value} {ops : Array Oper} {o : Oper} {a : Act} {K' : Act → World → Prop} {Q : Exit → Act → World → Prop} (hw : Region.wanted o (yielded ops a.tmps) = true) (s x : Operand) (t : TypeId)
    (ho : o.op = .call { callee := .builtin .append, args := #[s, x], argTypes := #[t, t] }) (hs : a.eval s = v) (hx : a.eval x = u)
    (hrun : Sem.run P (Builtin.append_ #[t, t] o.type #[v, u]) w = .ok v' w') (h : K' (a.put o.dst v') w') :
    if Region.wanted o (yielded ops a.tmps) = true then Oper.wp P o a w K' Q else K' (a.put o.dst undef) w := by
  rw [if_pos hw]
  unfold Oper.wp execOp
  simp only [ho, resolve, invoke, builtin, Sem.run_bind, Sem.run_pure, Result.andThen_ok, List.map_toArray, List.map_cons, List.map_nil, hs, hx, hrun]
  exact h
end Go.Proofs.Ythhmjjmjicmhdaa.Lift
