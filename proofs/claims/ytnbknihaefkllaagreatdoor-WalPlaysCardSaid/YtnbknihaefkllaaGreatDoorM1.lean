/- What the laws of this seat are proved from, part 1 of 5: texts laid one behind the other. -/
import Derived.WalkKit
import Derived.ProofKit
import Derived.OpenShut
import Derived.Below
import Derived.WideKeyArgs
import Derived.SizedLaws
import Derived.ChangeSlices
import Derived.ChangeSame
import Derived.ChangeOld
import Derived.Laws.OwnMore
import Derived.Deep.Draws
import Derived.Lib.Hide
import Derived.Laws.CopyOwn
import Derived.Laws.CopyRow
import Derived.Laws.IdiomCopy
import Derived.OwnWalk
import Derived.DataShut
import Derived.Deep.RegionHeld3
import Derived.Laws.BytesString
import Derived.BigFrame
import Derived.Laws.Rows
import Derived.Laws.MakeOwn
import Derived.Lib.SmallJoins
import Derived.Laws.ResultCell
import Derived.Handy
import Derived.WalkLawsBesides
import Derived.WalkSpells
import Derived.Outline
import Derived.Test.YtnbknihaefkllaaGreatDoorRows
import Derived.Lib.Bytealg
import Derived.Laws.BitsAllLaws
import Derived.Laws.BitsLemmas
import Derived.Deep.QuietTactic
import Derived.BigQuiet
import Derived.RowKit3
import Derived.LoopTactic
import Derived.Lib.SliceRun
import Derived.Lib.BytesEntry
import Derived.Lib.Strings
import Derived.Deep.Slices
import Derived.Deep.Strs
import Derived.Shelf.Strconv.Itoa0
import Derived.Shelf.LaysM
import Derived.Shelf.Strconv.Clone
import Derived.Test.YtnbknihaefkllaaGreatDoorProg
/- A law whose call, in every world, answers true and leaves all old memory alone fulfils its row: the step from the walk to the row, once for all laws; slices of whole numbers as lists. -/
namespace Go.Proofs.YtnbknihaefkllaaGreatDoor.Lift
open Go.ChangeShapes Go.WideShapes Go.ChangeAt Go.RowKit Go.WideElems

section
variable {H : Type} {enc : TypeId × Value → H} {P : Program}

theorem trodAll_stays (hl : laidOutB P = true) {W W' : World} {sp' : Nat → Bool} : ∀ (ts : List TypeId) (vs : List Value) (ds : List (DataW H)) (p : List MemPlace),
    (∀ t, t ∈ ts → P.readableRec t = true ∧ t < P.types.size) → DataW.TrodAll enc P W 0 (fun _ => true) true ts vs ds p →
    (∀ x, x ∈ p → W.sameAt W' x) → (∀ x, x ∈ p → sp' x.block = true) → DataW.TrodAll enc P W' 0 sp' true ts vs ds p := by
  intro ts
  induction ts with
  | nil =>
    intro vs ds p _ h _ _
    cases vs <;> cases ds <;> simp [DataW.TrodAll] at h ⊢
    exact h
  | cons t ts ih =>
    intro vs ds p ht h hs hb
    obtain ⟨v, vs', d, ds', q, r, rfl, rfl, rfl, h1, h2⟩ := trodAll_cons h
    refine ⟨q, r, ?_, ?_, rfl⟩
    · exact Trod_stays hl (ht t (by simp)).1 (ht t (by simp)).2 h1 (fun x hx => hs x (by simp [hx])) (fun x hx => hb x (by simp [hx]))
    · exact ih vs' ds' r (fun u hu => ht u (by simp [hu])) h2 (fun x hx => hs x (by simp [hx])) (fun x hx => hb x (by simp [hx]))

theorem post_true {f : Func} {s : ChangeSpec} {W W' : World} {args : Array Value} {ds : List (DataW H)} {tb : TypeId}
    (hl : laidOutB P = true) (hr : ∀ t, t ∈ f.params.toList → P.readableRec t = true ∧ t < P.types.size) (hres : f.resultTypes = #[tb]) (htb : P.underlying tb = some .bool)
    (hvars : s.vars = []) (hfn : (s.fn H (ds ++ [])).results = [.lit (.bool true)] ∧ (s.fn H (ds ++ [])).args = ds ∧ (s.fn H (ds ++ [])).vars = [])
    {p : List MemPlace} (hW : DataW.Whole enc P f.params.toList s.vars false W args.toList ds [] p)
    (hA : DataW.TrodAll enc P W 0 (fun _ => true) true f.params.toList args.toList ds p) (hb : Below W.heap.size W W') :
    s.post enc P f false true false false W args (.bool true) W' := by
  have hlt : ∀ x, x ∈ p → x.block < W.heap.size := fun x hx => hW.lt x hx
  obtain ⟨h1, h2, h3⟩ := hfn
  refine ⟨ds, [], p, [], p, [], hW, ?_, ?_, ?_, ?_, fun h => by cases h⟩
  · rw [h1, hres]
    exact trodAll_cons_mk (shut_bool htb true) trodAll_mk0
  · rw [h2]
    exact trodAll_stays hl _ _ _ _ hr hA (fun x hx => hb.same (hlt x hx)) (fun x hx => by simpa using hlt x hx)
  · rw [h3, hvars]
    rfl
  · exact hb.frame _

/-- The step from the walk to the row. -/
theorem lift_true {C : Checked} {os : Os} {f : FuncId} {fn : Func} {s : ChangeSpec} {conds : List PathCond} {tb : TypeId}
    (own : ownKnob C.prog.godebug = none) (started : os.Started) (noInit : C.prog.inits.idxOf? f = none) (hfn : C.prog.funcs[f]? = some fn)
    (witness : ∃ (w : World) (tape : Tape) (i : Input), w.os = os ∧ (w.forCall tape i).Shaped C.prog ∧ i.vars = [] ∧ Input.okWide C.prog (w.forCall tape i) .any w.heap.size f i ∧
      s.pre6 enc C.prog fn conds false (w.forCall tape i).memory i.args ∧ ({} : Assume).holds C.prog (lone (Frame.enter C.prog f i.args .normal) [] (w.forCall tape i)))
    (hl : laidOutB C.prog = true) (hr0 : (fn.params.toList.all fun t => C.prog.readableRec t && decide (t < C.prog.types.size)) = true) (hres : fn.resultTypes = #[tb]) (htb : C.prog.underlying tb = some .bool)
    (hvars : s.vars = [])
    (hs : ∀ ds : List (DataW H), ds.length = fn.params.size → (s.fn H (ds ++ [])).results = [.lit (.bool true)] ∧ (s.fn H (ds ++ [])).args = ds ∧ (s.fn H (ds ++ [])).vars = [])
    (walk : ∀ (W : World) (base : Nat) (args : Array Value) (ds : List (DataW H)) (p : List MemPlace),
      (∀ (j : Nat) t v, fn.params[j]? = some t → args[j]? = some v → Value.okWide C.prog W .any base t v) →
      DataW.TrodAll enc C.prog W 0 (fun _ => true) true fn.params.toList args.toList ds p → (∀ x, x ∈ p → x.block < W.heap.size) →
      (DataW.weightsEach C.prog fn.params.toList ds).all (· ≤ reachBytes) = true →
      Calls C.prog f args W fun e W' => e = .returned (.bool true) ∧ Below W.heap.size W W') :
    ReturnsInHanded {} C os f .any (s.pre6 enc C.prog fn conds false) (s.post enc C.prog fn false true false false) := by
  have hr : ∀ t, t ∈ fn.params.toList → C.prog.readableRec t = true ∧ t < C.prog.types.size := fun t ht => by
    have := List.all_eq_true.1 hr0 t ht
    rw [Bool.and_eq_true, decide_eq_true_eq] at this
    exact this
  refine returnsInHanded_of_change_sized own started noInit hfn witness ?_
  intro W base args ds gs before hval hW _ hwt _
  have hW' := hW
  obtain ⟨p, q, hA, hV, rfl, _, _⟩ := hW
  rw [hvars] at hV
  obtain ⟨rfl, rfl⟩ := trodVars_none hV
  have hlen : ∀ (ts : List TypeId) (vs : List Value) (es : List (DataW H)) (r : List MemPlace), DataW.TrodAll enc C.prog W 0 (fun _ => true) true ts vs es r → es.length = ts.length := by
    intro ts
    induction ts with
    | nil =>
      intro vs es r h
      cases vs <;> cases es <;> simp [DataW.TrodAll] at h ⊢
    | cons t ts ih =>
      intro vs es r h
      obtain ⟨_, vs', _, es', _, r', rfl, rfl, _, _, h2⟩ := trodAll_cons h
      simp [ih vs' es' r' h2]
  have hplt : ∀ x, x ∈ p → x.block < W.heap.size := fun x hx => hW'.lt x (by simpa using hx)
  have hty : s.plain.varTypes C.prog = [] := by simp [ChangeSpec.plain, hvars, DataSpec.varTypes]
  refine (walk W base args ds p hval hA hplt ?_).mono fun e W' ⟨he, hb⟩ => ⟨_, he, ?_⟩
  · simpa [hty] using hwt
  · simp only [List.append_nil] at hW'
    exact post_true hl hr hres htb hvars (hs ds (by rw [hlen _ _ _ _ hA]; simp)) hW' hA hb
end

/-- The slice with address A holds the cells xs, in blocks below B. -/
def Lies (w : World) (B : Nat) (A : Option Addr) (xs : List Value) : Prop :=
  xs = [] ∨ ∃ ad, A = some ad ∧ ad.block < B ∧ ∀ j u, xs[j]? = some u → w.cell? (ad.add j) = some u

section
variable {w w' : World} {B : Nat} {A : Option Addr} {xs : List Value}
theorem Lies.later (h : Lies w B A xs) (hk : ∀ p : Addr, p.block < B → w'.cell? p = w.cell? p) : Lies w' B A xs := by
  rcases h with h | ⟨ad, ha, hb, hc⟩
  · exact .inl h
  · refine .inr ⟨ad, ha, hb, fun j u hu => (hk _ ?_).trans (hc j u hu)⟩
    unfold Addr.add
    split <;> exact hb
theorem Lies.below (h : Lies w B A xs) (hb : Below B w w') : Lies w' B A xs := h.later fun _ hp => hb.cell hp
theorem Lies.up {B' : Nat} (h : Lies w B A xs) (hB : B ≤ B') : Lies w B' A xs := by
  rcases h with h | ⟨ad, ha, hb, hc⟩
  · exact .inl h
  · exact .inr ⟨ad, ha, Nat.lt_of_lt_of_le hb hB, hc⟩
theorem Lies.place (h : Lies w B A xs) (hn : 0 < xs.length) : ∃ ad, A = some ad ∧ ad.block < B ∧ ∀ j u, xs[j]? = some u → w.cell? (ad.add j) = some u := by
  rcases h with h | h
  · subst h; simp at hn
  · exact h
theorem Lies.front {ys : List Value} (h : Lies w B A xs) (hp : ys <+: xs) : Lies w B A ys := by
  rcases h with rfl | ⟨ad, ha, hb, hc⟩
  · exact .inl (List.prefix_nil.1 hp)
  · refine .inr ⟨ad, ha, hb, fun j u hj => hc j u ?_⟩
    obtain ⟨t, rfl⟩ := hp
    rw [List.getElem?_append_left (List.getElem?_eq_some_iff.1 hj).1]
    exact hj
theorem Lies.of_own {base : Nat} {e : TypeId} {size n c : Nat} (h : w.ownsRow base e size (.slice A n c) n xs) : Lies w w.heap.size A xs := by
  rcases h.2 with ⟨_, h0⟩ | ⟨g, cap, cur, hv, _, hh, _⟩
  · left
    have := h.1
    rw [h0] at this
    exact List.eq_nil_of_length_eq_zero (by simpa using this)
  · right
    injection hv with hA
    subst hA
    refine ⟨_, rfl, ?_, h.cells (g := g) rfl⟩
    rcases Nat.lt_or_ge g w.heap.size with hlt | hge
    · exact hlt
    · rw [Array.getElem?_eq_none hge] at hh; cases hh
end

theorem add_add (a : Addr) (i j : Nat) : (a.add i).add j = a.add (i + j) := by
  by_cases hi : i = 0
  · subst hi; simp [Addr.add]
  · by_cases hj : j = 0
    · subst hj; simp [Addr.add]
    · simp [Addr.add, hi, hj]; omega

theorem own_parts {w : World} {base n size : Nat} {e : TypeId} {v : Value} {xs : List Value} (h : w.ownsRow base e size v n xs) :
    ∃ A c, v = .slice A n c ∧ n ≤ c ∧ c ≤ maxLen ∧ Lies w w.heap.size A xs := by
  have h' := h
  rcases h.2 with ⟨rfl, h0⟩ | ⟨g, cap, cur, rfl, _, _, hnc, hcm, _⟩
  · subst h0
    exact ⟨none, 0, rfl, Nat.le_refl _, by decide, Lies.of_own h'⟩
  · exact ⟨_, cap, rfl, hnc, hcm, Lies.of_own h'⟩

/-- The built-in copy into a block whose cells are known. -/
theorem run_copy_fresh {P : Program} {w : World} {B : Nat} {A : Option Addr} {cs : List Value} (dT sT ty elem : TypeId) (hu : P.underlying dT = some (.slice elem)) (hs : (P.info? elem).map (·.size) = some 1)
    (g dLen dCap sLen sCap : Nat) (cur : List Value) (t : TypeId) (hg : w.heap[g]? = some (.cells cur.toArray t (0, 0))) (hl : Lies w B A cs) (hn : cs.length = Nat.min sLen dLen) (hfit : cs.length ≤ cur.length)
    (h1 : ∀ v, v ∈ cs → v.oneCell' = true) :
    ∃ w2, Sem.run P (Builtin.copy_ #[dT, sT] ty #[.slice (some ⟨g, 0, none⟩) dLen dCap, .slice A sLen sCap]) w = .ok (.int .i64 (cs.length : Int)) w2 ∧
      w2.heap[g]? = some (.cells (splice cur 0 cs).toArray t (0, 0)) ∧ Below g w w2 ∧ w2.heap.size = w.heap.size := by
  by_cases h0 : cs.length = 0
  · have hcs : cs = [] := List.eq_nil_of_length_eq_zero h0
    refine ⟨w, ?_, ?_, Below.refl _ _, rfl⟩
    · rw [h0]; exact run_copy_none (P := P) w dT sT ty elem _ _ _ _ _ _ hu hs (by omega)
    · rw [hg, hcs]; simp [splice]
  · obtain ⟨ad, rfl, _, hc⟩ := hl.place (by omega)
    refine ⟨_, run_copy_row P w dT sT ty elem g 0 dLen dCap ad sLen sCap cur.toArray t cs hu hs hg hn hc (by simpa using hfit) h1, ?_, ?_, ?_⟩
    · rw [setRow_heap w g _ _ t (0, 0) hg]; simp [splice]
    · exact below_setRow (Below.refl _ _) (Nat.le_refl _) _
    · simp

/-- append(out, x): one cell onto a slice of the call's own. -/
theorem run_append_one {P : Program} {w : World} {base n : Nat} {v u : Value} {xs : List Value} (t ty e : TypeId) (z : Value) (bytes : Nat) (ht : P.underlying t = some (.slice e))
    (hinfo : (P.info? e).map (fun i => (i.zero, i.size, i.bytes)) = some (some z, 1, bytes)) (hz : z.cells.size = 1) (hu : u.oneCell' = true)
    (hown : w.ownsRow base e 1 v n xs) (h63 : n + 1 ≤ maxLen) (hbytes : (n + 1) * bytes ≤ 140737488355328) (hbase : base ≤ w.heap.size) :
    ∃ v' w', Sem.run P (Builtin.append_ #[t, t] ty #[v, .slice (some ⟨w.heap.size, 0, none⟩) 1 1]) (w.alloc (.cells #[u] e)) = .ok v' w' ∧ w'.ownsRow base e 1 v' (n + 1) (xs ++ [u]) ∧ Below base w w' ∧
      w.heap.size < w'.heap.size := by
  obtain ⟨i, hi, hz0, hs, hb⟩ := info_parts hinfo
  obtain ⟨v', w', hrun, h1, h2, _⟩ := run_append_own (P := P) (w.alloc (.cells #[u] e)) base t ty e i z 1 bytes ht hi hz0 hs hb hz (by decide) v n xs (hown.alloc _) ⟨w.heap.size, 0, none⟩ 1 1 [u] rfl
    (fun j x hj => by
      rcases j with _ | j
      · simp at hj; subst hj
        exact World.cell?_alloc_new w #[u] e 0
      · simp at hj)
    (fun x hx => by simp at hx; subst hx; exact hu) h63 hbytes (by simp; omega)
  refine ⟨v', w', hrun, h1, (((Below.refl base w).alloc hbase _).grown h2 (by simp; omega) fun k hk => (hown.lt k hk).1), ?_⟩
  have := h2.size
  simp at this
  omega

/-- append(out, xs...): the cells of a slice, whatever it is, onto a slice of the call's own. -/
theorem run_append_lies {P : Program} {w : World} {base B n m c : Nat} {v : Value} {xs cs : List Value} {A : Option Addr} (t ty e : TypeId) (z : Value) (size bytes : Nat) (ht : P.underlying t = some (.slice e))
    (hinfo : (P.info? e).map (fun i => (i.zero, i.size, i.bytes)) = some (some z, size, bytes)) (hz : z.cells.size = size) (hsz : 0 < size) (hu : ∀ u, u ∈ cs → u.oneCell' = true)
    (hown : w.ownsRow base e size v n xs) (hl : Lies w B A cs) (hm : cs.length = m * size) (h63 : n + m ≤ maxLen) (hbytes : (n + m) * bytes ≤ 140737488355328) (hbase : base ≤ w.heap.size) :
    ∃ v' w', Sem.run P (Builtin.append_ #[t, t] ty #[v, .slice A m c]) w = .ok v' w' ∧ w'.ownsRow base e size v' (n + m) (xs ++ cs) ∧ Below base w w' ∧ w.heap.size ≤ w'.heap.size := by
  obtain ⟨i, hi, hz0, hs, hb⟩ := info_parts hinfo
  have some_ : ∀ ad : Addr, (∀ j u, cs[j]? = some u → w.cell? (ad.add j) = some u) →
      ∃ v' w', Sem.run P (Builtin.append_ #[t, t] ty #[v, .slice (some ad) m c]) w = .ok v' w' ∧ w'.ownsRow base e size v' (n + m) (xs ++ cs) ∧ Below base w w' ∧ w.heap.size ≤ w'.heap.size := by
    intro ad hc
    obtain ⟨v', w', hrun, h1, h2, _⟩ := run_append_own (P := P) w base t ty e i z size bytes ht hi hz0 hs hb hz hsz v n xs hown ad m c cs hm hc hu h63 hbytes hbase
    exact ⟨v', w', hrun, h1, (Below.refl base w).grown h2 hbase (fun k hk => (hown.lt k hk).1), h2.size⟩
  rcases hl with rfl | ⟨ad, rfl, _, hc⟩
  · have hm0 : m = 0 := by
      simp only [List.length_nil] at hm
      rcases Nat.eq_zero_or_pos m with h | h
      · exact h
      · have := Nat.mul_pos h hsz; omega
    subst hm0
    rcases A with _ | ad
    · refine ⟨v, w, ?_, by simpa using hown, Below.refl _ _, Nat.le_refl _⟩
      rcases hown.2 with ⟨rfl, rfl⟩ | ⟨g, cap, cur, rfl, _, _, hnc, _⟩
      · simp [Builtin.append_, run_underlying ht, sizeOf, typeInfo, hi, Builtin.lenOf, Builtin.firstCells]
      · simp [Builtin.append_, run_underlying ht, sizeOf, typeInfo, hi, Builtin.lenOf, Builtin.firstCells, hnc, storeCells]
    · exact some_ ad (by simp)
  · exact some_ ad hc

/-- The walk's step at an append of which the outcome is known. -/
theorem wpList_append_run {P : Program} {w w' : World} {v u v' : Value} {ops : Array Oper} {rest : List Oper} {o : Oper} {a : Act} {Q : Exit → Act → World → Prop} (hgd : o.guard = none) (s x : Operand) (t : TypeId)
    (ho : o.op = .call { callee := .builtin .append, args := #[s, x], argTypes := #[t, t] }) (hs : a.eval s = v) (hx : a.eval x = u)
    (hrun : Sem.run P (Builtin.append_ #[t, t] o.type #[v, u]) w = .ok v' w') (h : wpList P ops Q rest (a.put o.dst v') w') : wpList P ops Q (o :: rest) a w :=
  wpList_plain hgd fun _ hK => by
    unfold Oper.wp execOp
    simp only [ho, resolve, invoke, builtin, Sem.run_bind, Sem.run_pure, Result.andThen_ok, List.map_toArray, List.map_cons, List.map_nil, hs, hx, hrun]
    exact hK _ _ h

/-- The same where the append stands behind a guard that holds. -/
theorem wpList_append_held {P : Program} {w w' : World} {v u v' : Value} {ops : Array Oper} {rest : List Oper} {o : Oper} {a : Act} {Q : Exit → Act → World → Prop} (hw : Region.wanted o (yielded ops a.tmps) = true) (s x : Operand) (t : TypeId)
    (ho : o.op = .call { callee := .builtin .append, args := #[s, x], argTypes := #[t, t] }) (hs : a.eval s = v) (hx : a.eval x = u)
    (hrun : Sem.run P (Builtin.append_ #[t, t] o.type #[v, u]) w = .ok v' w') (h : wpList P ops Q rest (a.put o.dst v') w') : wpList P ops Q (o :: rest) a w :=
  BigFrame.wpList_want hw fun _ hK => by
    unfold Oper.wp execOp
    simp only [ho, resolve, invoke, builtin, Sem.run_bind, Sem.run_pure, Result.andThen_ok, List.map_toArray, List.map_cons, List.map_nil, hs, hx, hrun]
    exact hK _ _ h

/-- In the middle of a region whose order is open, what is known of all worlds to come may be known more closely. -/
theorem wpAnyH_other {P : Program} {md : Region.Mode} {ops : Array Oper} {Q : Exit → Act → World → Prop} {S S' : World → Prop} (hSS : ∀ w, S' w → S w) :
    ∀ (fuel : Nat) (listed : Array Bool) (a : Act) (w : World), wpAnyH P md ops Q S' fuel listed a w → wpAnyH P md ops Q S fuel listed a w
  | 0, _, _, _, h => h
  | fuel + 1, _, _, _, h => ⟨h.1, fun i hi => wpOp_mono (fun a' w' h' => ⟨hSS w' h'.1, wpAnyH_other hSS fuel _ a' w' h'.2⟩) (h.2 i hi)⟩

/-- Bytes as a string. -/
def str (bs : List Nat) : ByteArray := (bs.map fun b : Nat => (b : Int)).foldl (fun r n => r.push (UInt8.ofNat n.toNat)) ByteArray.empty
theorem run_string_lies {P : Program} {w : World} {B c : Nat} {A : Option Addr} {bs : List Nat} (src dst e : TypeId) (hs : P.underlying src = some (.slice e)) (he : P.underlying e = some (.int .u8)) (hd : P.underlying dst = some .string)
    (hl : Lies w B A (bs.map fun b : Nat => Value.int .u8 (b : Int))) : Sem.run P (convert src dst (.slice A bs.length c)) w = .ok (.string (str bs)) w := by
  rw [run_convert_bytes_string w src dst e A bs.length c hs he hd]
  have some_ : ∀ ad : Addr, (∀ j u, (bs.map fun b : Nat => Value.int .u8 (b : Int))[j]? = some u → w.cell? (ad.add j) = some u) → Sem.run P (Conv.bytesToString (.slice (some ad) bs.length c)) w = .ok (.string (str bs)) w := by
    intro ad hc
    refine run_bytesToString w ad bs.length c (bs.map fun b : Nat => (b : Int)) ?_
    have h := run_loadCells_list (P := P) w ad _ hc
    rw [List.length_map] at h
    rw [h, List.map_map]
    rfl
  rcases hl with h0 | ⟨ad, rfl, _, hc⟩
  · have hb : bs = [] := by simpa using h0
    subst hb
    rcases A with _ | ad
    · simp [Conv.bytesToString, str]
    · exact some_ ad (by simp)
  · exact some_ ad hc
theorem u8_of {n : Int} (h : (Lit.int .u8 n).wf = true) : 0 ≤ n ∧ n ≤ 255 := by
  rw [Lit.wf_int_iff, show IntKind.u8.min = 0 by decide +kernel, show IntKind.u8.max = 255 by decide +kernel] at h; exact h
theorem u32_of {n : Int} (h : (Lit.int .u32 n).wf = true) : 0 ≤ n ∧ n ≤ 4294967295 := by
  rw [Lit.wf_int_iff, show IntKind.u32.min = 0 by decide +kernel, show IntKind.u32.max = 4294967295 by decide +kernel] at h; exact h
theorem u64_of {n : Int} (h : (Lit.int .u64 n).wf = true) : 0 ≤ n ∧ n ≤ 18446744073709551615 := by
  rw [Lit.wf_int_iff, show IntKind.u64.min = 0 by decide +kernel, show IntKind.u64.max = 18446744073709551615 by decide +kernel] at h; exact h
theorem i64_of {n : Int} (h : (Lit.int .i64 n).wf = true) : -9223372036854775808 ≤ n ∧ n ≤ 9223372036854775807 := by
  rw [Lit.wf_int_iff, show IntKind.i64.min = -9223372036854775808 by decide +kernel, show IntKind.i64.max = 9223372036854775807 by decide +kernel] at h; exact h
/-- Whole numbers that are not below nothing, as such. -/
theorem as_nat (zs : List Int) (h : ∀ n, n ∈ zs → 0 ≤ n) : ∃ bs : List Nat, zs = bs.map (fun b : Nat => (b : Int)) ∧ ∀ b, b ∈ bs → (b : Int) ∈ zs := by
  refine ⟨zs.map Int.toNat, ?_, ?_⟩
  · rw [List.map_map]
    conv => lhs; rw [← List.map_id zs]
    refine List.map_congr_left fun n hn => ?_
    have := h n hn
    show n = ((n.toNat : Nat) : Int)
    omega
  · intro b hb
    obtain ⟨n, hn, rfl⟩ := List.mem_map.1 hb
    have := h n hn
    rw [Int.toNat_of_nonneg this]
    exact hn

/-- A parameter that is a slice of whole numbers, as it comes in. -/
theorem open_nums {H : Type} {enc : TypeId × Value → H} {P : Program} {W : World} {t e : TypeId} {k : IntKind} {v : Value} {d : DataW H} {p : List MemPlace} {base : Nat}
    (ht : P.underlying t = some (.slice e)) (he : P.underlying e = some (.int k)) (hc : P.cellsOf e = 1) (hok : Value.okWide P W .any base t v)
    (h : DataW.Trod enc P W 0 (fun _ => true) true t v d p) (hlt : ∀ x, x ∈ p → x.block < W.heap.size) :
    ∃ (A : Option Addr) (c : Nat) (zs : List Int), v = .slice A zs.length c ∧ zs.length ≤ c ∧ c ≤ maxLen ∧ Lies W W.heap.size A (zs.map (Value.int k)) ∧ ∀ n, n ∈ zs → (Lit.int k n).wf = true := by
  obtain ⟨a0, len, cap, rfl⟩ := okWide_slice ht hok
  obtain ⟨fuel, hf⟩ := h
  rcases open_ints ht he hc hf with ⟨hcs, hx⟩ | ⟨a, len', cap', zs, hcs, _, hl, hm, hz, hx, hcell, hwz⟩
  · simp [Value.cells] at hcs
    obtain ⟨rfl, rfl, rfl⟩ := hcs
    exact ⟨none, 0, [], rfl, Nat.le_refl _, by decide, .inl rfl, by simp⟩
  · simp [Value.cells] at hcs
    obtain ⟨rfl, rfl, rfl⟩ := hcs
    simp only [Prod.mk.injEq] at hx
    obtain ⟨rfl, rfl⟩ := hx
    simp only [if_true] at hz
    refine ⟨some a, cap, zs.take len, ?_, ?_, hm, ?_, fun n hn => hwz n (List.mem_of_mem_take hn)⟩
    · rw [List.length_take, Nat.min_eq_left (by omega)]
    · rw [List.length_take, Nat.min_eq_left (by omega)]; exact hl
    · by_cases h0 : zs.length = 0
      · left
        rw [List.eq_nil_of_length_eq_zero h0]
        simp
      · right
        refine ⟨a, rfl, ?_, fun j u hu => ?_⟩
        · exact hlt (.cell a.block (a.off + 0)) (by unfold MemPlace.row; exact List.mem_map.2 ⟨0, by simp; omega, rfl⟩)
        · rw [List.getElem?_map] at hu
          obtain ⟨n, hn, rfl⟩ := Option.map_eq_some_iff.1 hu
          have hj : j < (zs.take len).length := (List.getElem?_eq_some_iff.1 hn).1
          rw [List.length_take] at hj
          rw [List.getElem?_take_of_lt (by omega)] at hn
          rw [hcell j (by omega), List.getD_eq_getElem?_getD, hn]
          rfl

/-- The block g of n cells, of which the first k are filled as L says. -/
def Filled (w : World) (g n k : Nat) (T : TypeId) (L : List Value) : Prop := ∃ cur : List Value, w.heap[g]? = some (.cells cur.toArray T (0, 0)) ∧ cur.length = n ∧ cur.take k = L.take k
section
variable {w : World} {g n k : Nat} {T : TypeId} {L : List Value}
theorem Filled.start (w : World) (z : Value) (n : Nat) (T : TypeId) (L : List Value) : Filled (w.alloc (.cells (madeCells #[z] n) T)) w.heap.size n 0 T L :=
  ⟨(madeCells #[z] n).toList, by rw [Array.toArray_toList]; exact heap_alloc_new w _, by rw [toList_madeCells_one]; simp, by simp⟩
theorem Filled.next {v : Value} (h : Filled w g n k T L) (hk : k < n) (hv : L[k]? = some v) : Filled (w.setCell ⟨g, k, none⟩ v) g n (k + 1) T L := by
  obtain ⟨cur, h1, h2, h3⟩ := h
  refine ⟨cur.set k v, ?_, by simpa using h2, ?_⟩
  · rw [heap_setCell_same w g k _ _ _ h1]; simp
  · rw [List.take_add_one, List.take_add_one, List.take_set_of_le (Nat.le_refl k), h3, hv, List.getElem?_set_self (by omega)]
theorem Filled.cell {j : Nat} (h : Filled w g n k T L) (hj : j < n) : ∃ u, w.cell? ⟨g, j, none⟩ = some u := by
  obtain ⟨cur, h1, h2, h3⟩ := h
  exact ⟨cur[j]'(by omega), by simp [World.cell?, h1]⟩
theorem Filled.free (h : Filled w g n k T L) (j : Nat) : w.frozen? ⟨g, j, none⟩ = false := by
  obtain ⟨cur, h1, _⟩ := h
  exact frozen_of_row w g j _ _ h1
theorem Filled.drew (h : Filled w g n k T L) : Filled w.drew g n k T L := h
theorem Filled.own {B : Nat} (h : Filled w g n n T L) (hB : B ≤ g) (hL : L.length = n) (hm : n ≤ maxLen) : w.ownsRow B T 1 (.slice (some ⟨g, 0, none⟩) n n) n L := by
  obtain ⟨cur, h1, h2, h3⟩ := h
  rw [List.take_of_length_le (by omega), List.take_of_length_le (by omega)] at h3
  subst h3
  refine ⟨by omega, .inr ⟨g, n, _, rfl, hB, h1, Nat.le_refl _, hm, ?_, ?_⟩⟩
  · simp [h2]
  · simp only [Nat.mul_one]
    exact List.take_of_length_le (by omega)
end

/-- An append of which the outcome is known, as it comes up in a region whose order is open (behind 'AllReadyH.cons'). -/
theorem held_append {P : Program} {w w' : World} {v u v' : Value} {ops : Array Oper} {o : Oper} {a : Act} {K' : Act → World → Prop} {Q : Exit → Act → World → Prop} (hw : Region.wanted o (yielded ops a.tmps) = true) (s x : Operand) (t : TypeId)
    (ho : o.op = .call { callee := .builtin .append, args := #[s, x], argTypes := #[t, t] }) (hs : a.eval s = v) (hx : a.eval x = u)
    (hrun : Sem.run P (Builtin.append_ #[t, t] o.type #[v, u]) w = .ok v' w') (h : K' (a.put o.dst v') w') :
    if Region.wanted o (yielded ops a.tmps) = true then Oper.wp P o a w K' Q else K' (a.put o.dst undef) w := by
  rw [if_pos hw]
  unfold Oper.wp execOp
  simp only [ho, resolve, invoke, builtin, Sem.run_bind, Sem.run_pure, Result.andThen_ok, List.map_toArray, List.map_cons, List.map_nil, hs, hx, hrun]
  exact h
end Go.Proofs.YtnbknihaefkllaaGreatDoor.Lift
/- What old memory keeps where a call writes a few old blocks (Keep); slices in blocks of some kind (LiesP); a struct in a box, handed back. -/
namespace Go.Proofs.YtnbknihaefkllaaGreatDoor.Lift
set_option linter.unusedVariables false
open Go.RowKit

/-- All that was there is as it was, but for the blocks S. -/
structure Keep (S : Nat → Prop) (w w' : World) : Prop where
  os : w'.os = w.os
  tape : w'.tape = w.tape
  output : w'.output = w.output
  size : w.heap.size ≤ w'.heap.size
  block : ∀ k, k < w.heap.size → ¬ S k → w'.heap[k]? = w.heap[k]?
section
variable {S T : Nat → Prop} {a b c w w' : World}
theorem Keep.refl (S : Nat → Prop) (w : World) : Keep S w w := ⟨rfl, rfl, rfl, Nat.le_refl _, fun _ _ _ => rfl⟩
theorem Keep.trans (h : Keep S a b) (k : Keep T b c) (hT : ∀ i, i < a.heap.size → T i → S i) : Keep S a c :=
  ⟨k.os.trans h.os, k.tape.trans h.tape, k.output.trans h.output, Nat.le_trans h.size k.size, fun i hi hS => (k.block i (Nat.lt_of_lt_of_le hi h.size) fun hs => hS (hT i hi hs)).trans (h.block i hi hS)⟩
theorem Keep.mono (h : Keep S a b) (hT : ∀ i, S i → T i) : Keep T a b := ⟨h.os, h.tape, h.output, h.size, fun k hk hn => h.block k hk fun hs => hn (hT k hs)⟩
theorem Keep.of_below {B : Nat} (h : Below B w w') (hS : ∀ k, k < w.heap.size → B ≤ k → S k) : Keep S w w' :=
  ⟨h.os, h.tape, h.output, h.size, fun k hk hn => h.block k (Nat.lt_of_not_le fun hb => hn (hS k hk hb))⟩
theorem below_keep (h : Below w.heap.size w w') : Keep S w w' := ⟨h.os, h.tape, h.output, h.size, fun k hk _ => h.block k hk⟩
theorem Keep.below {B : Nat} (h : Keep S w w') (hB : B ≤ w.heap.size) (hS : ∀ k, S k → B ≤ k) : Below B w w' :=
  ⟨h.os, h.tape, h.output, h.size, fun k hk => h.block k (Nat.lt_of_lt_of_le hk hB) fun hs => absurd (hS k hs) (Nat.not_le_of_lt hk)⟩
theorem Keep.alloc (h : Keep S a w) (o : Obj) : Keep S a (w.alloc o) :=
  h.trans (T := fun _ => False) (below_keep (Joins.below_alloc1 w o)) (fun _ _ h => h.elim)
theorem Keep.setCell (h : Keep S a w) {p : Addr} (hp : a.heap.size ≤ p.block ∨ S p.block) (u : Value) : Keep S a (w.setCell p u) :=
  h.trans (T := fun k => k = p.block) ⟨rfl, rfl, rfl, by simp [World.setCell], fun k _ hn => Below.heap_setCell _ _ _ _ hn⟩ (fun i hi he => by
    subst he
    rcases hp with h1 | h1
    · exact absurd hi (Nat.not_lt_of_le h1)
    · exact h1)
theorem Keep.drew (h : Keep S a w) : Keep S a w.drew := ⟨h.os, h.tape, h.output, h.size, h.block⟩
theorem Keep.grown {row : Option Nat} (h : Keep S a w) (hg : w.grownBy w' row) (hr : ∀ k, row = some k → k < a.heap.size → S k) : Keep S a w' :=
  h.trans (T := fun k => row = some k) ⟨hg.os, hg.tape, hg.output, hg.size, fun k hk hn => hg.block k hk fun e => hn e.symm⟩ (fun i hi he => hr i he hi)
end

/-- The slice with address A holds the cells xs, in a block of the kind R. -/
def LiesP (w : World) (R : Nat → Prop) (A : Option Addr) (xs : List Value) : Prop :=
  xs = [] ∨ ∃ ad, A = some ad ∧ R ad.block ∧ ∀ j u, xs[j]? = some u → w.cell? (ad.add j) = some u
section
variable {R R' : Nat → Prop} {w w' : World} {B : Nat} {A : Option Addr} {xs : List Value}
theorem add_block (a : Addr) (j : Nat) : (a.add j).block = a.block := by unfold Addr.add; split <;> rfl
theorem LiesP.later (h : LiesP w R A xs) (hk : ∀ k, R k → w'.heap[k]? = w.heap[k]?) (hR : ∀ k, R k → R' k) : LiesP w' R' A xs := by
  rcases h with h | ⟨ad, ha, hb, hc⟩
  · exact .inl h
  · exact .inr ⟨ad, ha, hR _ hb, fun j u hu => (World.cell?_of_block (w := w) (by rw [add_block]; exact hk _ hb)).trans (hc j u hu)⟩
theorem LiesP.lies (h : LiesP w R A xs) (hR : ∀ k, R k → k < B) : Lies w B A xs := by
  rcases h with h | ⟨ad, ha, hb, hc⟩
  · exact .inl h
  · exact .inr ⟨ad, ha, hR _ hb, hc⟩
theorem Lies.p (h : Lies w B A xs) (hR : ∀ k, k < B → R k) : LiesP w R A xs := by
  rcases h with h | ⟨ad, ha, hb, hc⟩
  · exact .inl h
  · exact .inr ⟨ad, ha, hR _ hb, hc⟩
theorem LiesP.of_own {base n c size : Nat} {e : TypeId} (h : w.ownsRow base e size (.slice A n c) n xs) : LiesP w (fun k => base ≤ k ∧ k < w.heap.size ∧ ∃ cs fr, w.heap[k]? = some (.cells cs e fr)) A xs := by
  rcases h.2 with ⟨_, h0⟩ | ⟨g, cap, cur, hv, hg, hh, _⟩
  · left
    have := h.1
    rw [h0] at this
    exact List.eq_nil_of_length_eq_zero (by simpa using this)
  · right
    injection hv with hA
    subst hA
    exact ⟨_, rfl, ⟨hg, (Array.getElem?_eq_some_iff.1 hh).1, _, _, hh⟩, h.cells (g := g) rfl⟩
end

theorem own_later {w w' : World} {base size n : Nat} {e : TypeId} {v : Value} {xs : List Value} (h : w.ownsRow base e size v n xs) (hb : Below w.heap.size w w') : w'.ownsRow base e size v n xs := by
  refine ⟨h.1, ?_⟩
  rcases h.2 with h0 | ⟨g, cap, cur, hv, hB, hh, r⟩
  · exact .inl h0
  · exact .inr ⟨g, cap, cur, hv, hB, (hb.block g (Array.getElem?_eq_some_iff.1 hh).1).trans hh, r⟩
/-- v' came out of v, a slice of the call's own, by appends: of what was there the block of v alone may have changed, and v' lies there or in new memory. -/
structure Onto (v v' : Value) (w w' : World) : Prop where
  keep : Keep (fun k => v.ownBlock = some k) w w'
  place : ∀ k, v'.ownBlock = some k → v.ownBlock = some k ∨ w.heap.size ≤ k
section
variable {v v' v'' : Value} {w w' w'' : World} {base n size : Nat} {e : TypeId} {xs : List Value}
theorem Onto.refl (v : Value) (w : World) : Onto v v w w := ⟨Keep.refl _ _, fun k h => .inl h⟩
theorem Onto.trans (h : Onto v v' w w') (k : Onto v' v'' w' w'') : Onto v v'' w w'' :=
  ⟨h.keep.trans k.keep fun i hi he => (h.place i he).elim id fun h1 => absurd hi (Nat.not_lt_of_le h1), fun i hi => (k.place i hi).elim (fun h1 => h.place i h1) fun h1 => .inr (Nat.le_trans h.keep.size h1)⟩
theorem Onto.pre (h : Below w.heap.size w w') (k : Onto v v' w' w'') : Onto v v' w w'' :=
  ⟨(below_keep h).trans k.keep (fun _ _ he => he), fun i hi => (k.place i hi).imp id fun h1 => Nat.le_trans h.size h1⟩
theorem Onto.post (h : Onto v v' w w') (k : Below w'.heap.size w' w'') : Onto v v' w w'' :=
  ⟨h.keep.trans (T := fun _ => False) (below_keep k) fun _ _ he => he.elim, h.place⟩
theorem Onto.below (h : Onto v v' w w') (hown : w.ownsRow base e size v n xs) (hb : base ≤ w.heap.size) : Below base w w' := h.keep.below hb fun k hk => (hown.lt k hk).1
end
theorem own_apart {w : World} {base n size g : Nat} {e T : TypeId} {v : Value} {xs us : List Value} (h : w.ownsRow base e size v n xs) (hb : w.heap[g]? = some (.cells us.toArray T (0, 0))) (hT : T ≠ e) : ¬ v.ownBlock = some g := by
  intro hg
  rcases h.2 with ⟨rfl, _⟩ | ⟨g', cap, cur, rfl, _, hh, _⟩
  · simp [Value.ownBlock] at hg
  · simp [Value.ownBlock] at hg
    subst hg
    rw [hh] at hb
    injection hb with hb
    injection hb with _ h2
    exact hT h2.symm
theorem append_place {P : Program} {w w' : World} {base n m c : Nat} {v v' : Value} {xs cs : List Value} {ad : Addr} {i : TypeInfo} {z : Value} (t ty e : TypeId) (ht : P.underlying t = some (.slice e)) (hi : P.info? e = some i) (hz : i.zero = some z)
    (hzs : z.cells.size = i.size) (hsz : 0 < i.size) (h1 : ∀ u, u ∈ cs → u.oneCell' = true) (hown : w.ownsRow base e i.size v n xs) (hl : cs.length = m * i.size) (hc : ∀ j u, cs[j]? = some u → w.cell? (ad.add j) = some u)
    (h63 : n + m ≤ maxLen) (hbytes : (n + m) * i.bytes ≤ 140737488355328) (hrun : Sem.run P (Builtin.append_ #[t, t] ty #[v, .slice (some ad) m c]) w = .ok v' w') : ∀ k, v'.ownBlock = some k → v.ownBlock = some k ∨ w.heap.size ≤ k := by
  intro k hk
  rcases hown.2 with ⟨rfl, rfl⟩ | ⟨g, cap, cur, rfl, hbg, hg, hnc, hcm, hcs, htake⟩
  · have hx : xs = [] := List.eq_nil_of_length_eq_zero (by simpa using hown.1)
    subst hx
    obtain ⟨v2, w2, hr, ho, _⟩ := run_append_own (P := P) w w.heap.size t ty e i z i.size i.bytes ht hi hz rfl rfl hzs hsz (.slice none 0 0) 0 [] (World.ownsRow_nil _ _ _ _) ad m c cs hl hc h1 h63 hbytes (Nat.le_refl _)
    rw [hrun] at hr
    injection hr with e1 e2
    subst e1; subst e2
    exact .inr (ho.lt k hk).1
  · by_cases hroom : n + m ≤ cap
    · have hr := run_append_room (P := P) w t ty e i ht hi g n cap cur hg ad m c cs hl hc h1 hroom (by rw [hl, hcs, ← Nat.add_mul]; exact Nat.mul_le_mul_right _ hroom)
      rw [hrun] at hr
      injection hr with e1 e2
      subst e1
      exact .inl hk
    · have hr := run_append_grow (P := P) w t ty e i z ht hi hz ⟨g, 0, none⟩ n cap xs hown.1 (hown.cells (g := g) rfl) ad m c cs hl hc (by omega) (by unfold maxLen at h63; omega) (growslice_fits (by omega) hbytes)
      rw [hrun] at hr
      injection hr with e1 e2
      subst e1
      simp [Value.ownBlock] at hk
      exact .inr (by omega)
/-- append(out, xs...): the cells of a slice, whatever it is, onto a slice of the call's own; where the outcome lies. -/
theorem run_append_onto {P : Program} {w : World} {base B n m c : Nat} {v : Value} {xs cs : List Value} {A : Option Addr} (t ty e : TypeId) (z : Value) (size bytes : Nat) (ht : P.underlying t = some (.slice e))
    (hinfo : (P.info? e).map (fun i => (i.zero, i.size, i.bytes)) = some (some z, size, bytes)) (hz : z.cells.size = size) (hsz : 0 < size) (hu : ∀ u, u ∈ cs → u.oneCell' = true)
    (hown : w.ownsRow base e size v n xs) (hl : Lies w B A cs) (hm : cs.length = m * size) (h63 : n + m ≤ maxLen) (hbytes : (n + m) * bytes ≤ 140737488355328) (hbase : base ≤ w.heap.size) :
    ∃ v' w', Sem.run P (Builtin.append_ #[t, t] ty #[v, .slice A m c]) w = .ok v' w' ∧ w'.ownsRow base e size v' (n + m) (xs ++ cs) ∧ Onto v v' w w' := by
  obtain ⟨i, hi, hz0, hs, hb⟩ := info_parts hinfo
  have some_ : ∀ ad : Addr, (∀ j u, cs[j]? = some u → w.cell? (ad.add j) = some u) →
      ∃ v' w', Sem.run P (Builtin.append_ #[t, t] ty #[v, .slice (some ad) m c]) w = .ok v' w' ∧ w'.ownsRow base e size v' (n + m) (xs ++ cs) ∧ Onto v v' w w' := by
    intro ad hc
    obtain ⟨v', w', hrun, h1, h2, _⟩ := run_append_own (P := P) w base t ty e i z size bytes ht hi hz0 hs hb hz hsz v n xs hown ad m c cs hm hc hu h63 hbytes hbase
    subst hs hb
    exact ⟨v', w', hrun, h1, (Keep.refl _ _).grown h2 fun k hk _ => hk, append_place t ty e ht hi hz0 hz hsz hu hown hm hc h63 hbytes hrun⟩
  rcases hl with rfl | ⟨ad, rfl, _, hc⟩
  · have hm0 : m = 0 := by
      simp only [List.length_nil] at hm
      rcases Nat.eq_zero_or_pos m with h | h
      · exact h
      · have := Nat.mul_pos h hsz; omega
    subst hm0
    rcases A with _ | ad
    · refine ⟨v, w, ?_, by simpa using hown, Onto.refl _ _⟩
      rcases hown.2 with ⟨rfl, rfl⟩ | ⟨g, cap, cur, rfl, _, _, hnc, _⟩
      · simp [Builtin.append_, run_underlying ht, sizeOf, typeInfo, hi, Builtin.lenOf, Builtin.firstCells]
      · simp [Builtin.append_, run_underlying ht, sizeOf, typeInfo, hi, Builtin.lenOf, Builtin.firstCells, hnc, storeCells]
    · exact some_ ad (by simp)
  · exact some_ ad hc
theorem lies_block {w : World} {g B : Nat} {cs : Array Value} {T : TypeId} {fr : Nat × Nat} (h : w.heap[g]? = some (.cells cs T fr)) (hB : g < B) : Lies w B (some ⟨g, 0, none⟩) cs.toList :=
  .inr ⟨_, rfl, hB, fun j u hj => by
    have e : (⟨g, 0, none⟩ : Addr).add j = ⟨g, j, none⟩ := by unfold Addr.add; split <;> simp_all
    rw [e, cell_of_row w g j cs T fr h]
    simpa using hj⟩
theorem heap_alloc3 (w : World) (o1 o2 o3 : Obj) : (((w.alloc o1).alloc o2).alloc o3).heap[w.heap.size]? = some o1 ∧ (((w.alloc o1).alloc o2).alloc o3).heap[w.heap.size + 1]? = some o2 ∧ (((w.alloc o1).alloc o2).alloc o3).heap[w.heap.size + 1 + 1]? = some o3 ∧
    (((w.alloc o1).alloc o2).alloc o3).heap.size = w.heap.size + 3 := by
  have s1 : (w.alloc o1).heap.size = w.heap.size + 1 := by simp
  have s2 : ((w.alloc o1).alloc o2).heap.size = w.heap.size + 1 + 1 := by simp
  refine ⟨?_, ?_, ?_, by simp⟩
  · rw [Below.heap_alloc _ _ _ (by omega), Below.heap_alloc _ _ _ (by omega)]
    exact heap_alloc_new w o1
  · rw [Below.heap_alloc _ _ _ (by omega), ← s1]
    exact heap_alloc_new _ o2
  · rw [← s2]
    exact heap_alloc_new _ o3
theorem cell_eq {w w' : World} {p : Addr} {v : Value} (hk : w'.heap[p.block]? = w.heap[p.block]?) (h : w.cell? p = some v) : w'.cell? p = some v := (World.cell?_of_block (w := w) hk).trans h

/-- A block of one-cell fields, whole. -/
def Box (w : World) (g : Nat) (T : TypeId) (us : List Value) : Prop := w.heap[g]? = some (.cells us.toArray T (0, 0))
section
variable {w w' : World} {g : Nat} {T : TypeId} {us : List Value}
theorem Box.cell (h : Box w g T us) (i : Nat) : w.cell? ⟨g, i, none⟩ = us[i]? := (cell_of_row w g i _ _ _ h).trans (by simp)
theorem Box.free (h : Box w g T us) (i : Nat) : w.frozen? ⟨g, i, none⟩ = false := frozen_of_row w g i _ _ h
theorem Box.lt (h : Box w g T us) : g < w.heap.size := (Array.getElem?_eq_some_iff.1 h).1
theorem Box.new (w : World) (T : TypeId) (us : List Value) : Box (w.alloc (.cells us.toArray T)) w.heap.size T us := heap_alloc_new w _
theorem Box.at_block (h : Box w g T us) (hk : w'.heap[g]? = w.heap[g]?) : Box w' g T us := hk.trans h
theorem Box.below {B : Nat} (h : Box w g T us) (hb : Below B w w') (hg : g < B) : Box w' g T us := (hb.block g hg).trans h
theorem Box.keep {S : Nat → Prop} (h : Box w g T us) (hb : Keep S w w') (hg : ¬ S g) : Box w' g T us := (hb.block g h.lt hg).trans h
theorem Box.alloc (h : Box w g T us) (o : Obj) : Box (w.alloc o) g T us := (Below.heap_alloc w o g h.lt).trans h
theorem Box.set (h : Box w g T us) (i : Nat) (v : Value) : Box (w.setCell ⟨g, i, none⟩ v) g T (us.set i v) := by
  have := heap_setCell_same w g i _ _ v h
  unfold Box
  rw [this]
  simp
theorem Box.setOther (h : Box w g T us) {p : Addr} (hp : g ≠ p.block) (v : Value) : Box (w.setCell p v) g T us := (heap_setCell_other w p g v hp).trans h
theorem Box.facts2 {u0 u1 : Value} (h : Box w g T [u0, u1]) : w.cell? ⟨g, 0, none⟩ = some u0 ∧ w.cell? ⟨g, 1, none⟩ = some u1 ∧ w.frozen? ⟨g, 0, none⟩ = false ∧ w.frozen? ⟨g, 1, none⟩ = false :=
  ⟨h.cell 0, h.cell 1, h.free 0, h.free 1⟩
theorem Box.facts3 {u0 u1 u2 : Value} (h : Box w g T [u0, u1, u2]) : w.cell? ⟨g, 0, none⟩ = some u0 ∧ w.cell? ⟨g, 1, none⟩ = some u1 ∧ w.cell? ⟨g, 2, none⟩ = some u2 ∧
    w.frozen? ⟨g, 0, none⟩ = false ∧ w.frozen? ⟨g, 1, none⟩ = false ∧ w.frozen? ⟨g, 2, none⟩ = false :=
  ⟨h.cell 0, h.cell 1, h.cell 2, h.free 0, h.free 1, h.free 2⟩
/-- A struct in a box and a number, handed back. -/
theorem results_box {P : Program} {fn : Func} {p u : Tmp} {fs : Array Field} (h : fn.results = #[.cell p T, .tmp u]) (hu : P.underlying T = some (.struct fs))
    (hi : (P.info? T).map (·.size) = some us.toArray.size) (tmps : Array Value) (hp : tmps.getD p undef = .pointer (some ⟨g, 0, none⟩)) (hb : Box w g T us) :
    (results fn tmps).run P w = .ok (.tuple #[.agg us.toArray, tmps.getD u undef]) w := by
  rw [results_cell_tmp h, hp]
  have hl := run_loadVar_row (P := P) w g T T us.toArray (0, 0) (.struct fs) hb hu rfl hi
  simp only [asAddr, Sem.run_pure, Result.andThen, hl]
end
end Go.Proofs.YtnbknihaefkllaaGreatDoor.Lift
/- What came in as a cell of a struct: a slice of whole numbers, a whole number. -/
namespace Go.Proofs.YtnbknihaefkllaaGreatDoor.Lift
open Go.ChangeShapes Go.WideShapes Go.ChangeAt Go.RowKit Go.WideElems

/-- A cell that is a slice of whole numbers, as it came in. -/
theorem open_nums_at {H : Type} {enc : TypeId × Value → H} {P : Program} {W : World} {t e : TypeId} {k : IntKind} {v : Value} {y : DataW H × List MemPlace} {n : Nat}
    (ht : P.underlying t = some (.slice e)) (he : P.underlying e = some (.int k)) (hc : P.cellsOf e = 1)
    (h : DataW.trod enc P W 0 (fun _ => true) true n t [v] = some y) (hlt : ∀ x, x ∈ y.2 → x.block < W.heap.size) :
    ∃ (A : Option Addr) (c : Nat) (zs : List Int), v = .slice A zs.length c ∧ zs.length ≤ c ∧ c ≤ maxLen ∧ Lies W W.heap.size A (zs.map (Value.int k)) ∧ ∀ n, n ∈ zs → (Lit.int k n).wf = true := by
  rcases open_ints ht he hc h with ⟨hcs, hx⟩ | ⟨a, len', cap', zs, hcs, _, hl, hm, hz, hx, hcell, hwz⟩
  · simp at hcs
    subst hcs
    exact ⟨none, 0, [], rfl, Nat.le_refl _, by decide, .inl rfl, by simp⟩
  · simp at hcs
    subst hcs
    obtain ⟨y1, y2⟩ := y
    simp only [Prod.mk.injEq] at hx
    obtain ⟨rfl, rfl⟩ := hx
    simp only [if_true] at hz
    refine ⟨some a, cap', zs.take len', ?_, ?_, hm, ?_, fun n hn => hwz n (List.mem_of_mem_take hn)⟩
    · rw [List.length_take, Nat.min_eq_left (by omega)]
    · rw [List.length_take, Nat.min_eq_left (by omega)]; exact hl
    · by_cases h0 : zs.length = 0
      · left
        rw [List.eq_nil_of_length_eq_zero h0]
        simp
      · right
        refine ⟨a, rfl, ?_, fun j u hu => ?_⟩
        · exact hlt (.cell a.block (a.off + 0)) (by unfold MemPlace.row; exact List.mem_map.2 ⟨0, by simp; omega, rfl⟩)
        · rw [List.getElem?_map] at hu
          obtain ⟨n, hn, rfl⟩ := Option.map_eq_some_iff.1 hu
          have hj : j < (zs.take len').length := (List.getElem?_eq_some_iff.1 hn).1
          rw [List.length_take] at hj
          rw [List.getElem?_take_of_lt (by omega)] at hn
          rw [hcell j (by omega), List.getD_eq_getElem?_getD, hn]
          rfl
/-- A cell that is a whole number. -/
theorem open_int_at {H : Type} {enc : TypeId × Value → H} {P : Program} {W : World} {t : TypeId} {k : IntKind} {v : Value} {y : DataW H × List MemPlace} {n : Nat}
    (ht : P.underlying t = some (.int k)) (h : DataW.trod enc P W 0 (fun _ => true) true n t [v] = some y) : ∃ z, v = .int k z ∧ (Lit.int k z).wf = true := by
  obtain ⟨z, hc, _, hw⟩ := DataW.trod_int ht h
  simp at hc
  exact ⟨z, hc, hw⟩
end Go.Proofs.YtnbknihaefkllaaGreatDoor.Lift
/- Slices of bytes that a call makes: fresh bytes, what a copy lays into them, and what is handed on. -/
namespace Go.Proofs.YtnbknihaefkllaaGreatDoor.Lift
open Go.RowKit

/-- Fresh bytes. -/
def zeros (n : Nat) : Array Value := madeCells #[.int .u8 0] n
theorem zeros_size (n : Nat) : (zeros n).size = n := by
  have := congrArg List.length (toList_madeCells_one (.int .u8 0) n)
  simpa [zeros] using this

/-- A slice of the call's own that holds the bytes bs. -/
def Made (B : Nat) (w : World) (bs : List Nat) (e : Ending) (w' : World) : Prop :=
  ∃ v, e = .returned v ∧ w'.ownsRow B 5 1 v bs.length (bs.map fun c : Nat => Value.int .u8 (c : Int)) ∧ Below B w w'
theorem Made.parts {B : Nat} {w w' : World} {bs : List Nat} {e : Ending} (h : Made B w bs e w') :
    ∃ A c, e = .returned (.slice A bs.length c) ∧ bs.length ≤ c ∧ c ≤ maxLen ∧ Lies w' w'.heap.size A (bs.map fun c : Nat => Value.int .u8 (c : Int)) ∧ Below B w w' := by
  obtain ⟨v, rfl, ho, hb⟩ := h
  obtain ⟨A, c, rfl, hc, hm, hl⟩ := own_parts ho
  exact ⟨A, c, rfl, hc, hm, hl, hb⟩

theorem own_spliced {w : World} {B g n m : Nat} {xs cur : List Value} (hB : B ≤ g) (h : w.heap[g]? = some (.cells (splice cur 0 xs).toArray 5 (0, 0))) (hx : xs.length = n) (hc : cur.length = n + m) (hm : n + m ≤ maxLen) :
    w.ownsRow B 5 1 (.slice (some ⟨g, 0, none⟩) n (n + m)) n xs := by
  refine ⟨by omega, .inr ⟨g, n + m, _, rfl, hB, h, by omega, hm, ?_, ?_⟩⟩
  · simp [splice]; omega
  · simp [splice, hx]

/-- make([]byte, n, n + m). -/
theorem make_bytes (n m : Nat) (h : n + m ≤ 140737488355328) (W : World) : Sem.run Tryz.prog (Instr.makeSlice 24 (.int .i64 (n : Int)) (.int .i64 ((n : Int) + (m : Int)))) W =
      .ok (.slice (some ⟨W.heap.size, 0, none⟩) n (n + m)) (W.alloc (.cells (zeros (n + m)) 5)) := by
  obtain ⟨i, hi, hz, hs, hb⟩ := info_parts (P := Tryz.prog) (e := 5) (z := .int .u8 0) (size := 1) (bytes := 1) (by kernel_rfl)
  have h := run_make (P := Tryz.prog) W 24 5 i (.int .u8 0) Tryz.underlying24 hi hz .i64 .i64 (n : Int) ((n : Int) + (m : Int)) (by omega) (by omega) (by rw [hb]; omega) (by omega)
  rw [hs, Nat.mul_one] at h
  exact h
/-- make([]byte, n, n + m), and bytes copied into its first n. -/
theorem make_copy (A : Option Addr) (c m : Nat) (bs : List Nat) (W : World) (hl : Lies W W.heap.size A (bs.map fun c : Nat => Value.int .u8 (c : Int))) (h : bs.length + m ≤ 140737488355328) :
    ∃ W2, Sem.run Tryz.prog (Builtin.copy_ #[24, 24] 3 #[.slice (some ⟨W.heap.size, 0, none⟩) bs.length (bs.length + m), .slice A bs.length c]) (W.alloc (.cells (zeros (bs.length + m)) 5)) = .ok (.int .i64 (bs.length : Int)) W2 ∧
      W2.ownsRow W.heap.size 5 1 (.slice (some ⟨W.heap.size, 0, none⟩) bs.length (bs.length + m)) bs.length (bs.map fun c : Nat => Value.int .u8 (c : Int)) ∧ Below W.heap.size W W2 := by
  have hz : (zeros (bs.length + m)).toList.length = bs.length + m := by have := zeros_size (bs.length + m); simpa using this
  have hnew : (W.alloc (.cells (zeros (bs.length + m)) 5)).heap[W.heap.size]? = some (.cells (zeros (bs.length + m)).toList.toArray 5 (0, 0)) := by rw [Array.toArray_toList]; exact heap_alloc_new W _
  obtain ⟨w2, hcp, hh2, hb2, hs2⟩ := run_copy_fresh (P := Tryz.prog) 24 24 3 5 Tryz.underlying24 (by kernel_rfl) W.heap.size bs.length (bs.length + m) bs.length c (zeros (bs.length + m)).toList 5 hnew
    (hl.below ((Below.refl _ _).alloc (Nat.le_refl _) _)) (by simp) (by rw [hz]; simp) (by intro v hv; simp at hv; obtain ⟨_, _, rfl⟩ := hv; rfl)
  refine ⟨w2, ?_, own_spliced (Nat.le_refl _) hh2 (by simp) hz (by clear hz; unfold maxLen; omega), ((Below.refl _ _).alloc (Nat.le_refl _) _).trans hb2⟩
  rw [List.length_map] at hcp
  exact hcp
/-- append([]byte(nil), bs...). -/
theorem fresh_bytes (A : Option Addr) (c B : Nat) (bs : List Nat) (W : World) (hl : Lies W B A (bs.map fun c : Nat => Value.int .u8 (c : Int))) (hn : bs.length ≤ 140737488355000) :
    ∃ A2 c2 W2, Sem.run Tryz.prog (Builtin.append_ #[24, 24] 24 #[.slice none 0 0, .slice A bs.length c]) W = .ok (.slice A2 bs.length c2) W2 ∧
      W2.ownsRow W.heap.size 5 1 (.slice A2 bs.length c2) bs.length (bs.map fun c : Nat => Value.int .u8 (c : Int)) ∧ Below W.heap.size W W2 := by
  obtain ⟨v2, W2, hr2, hown, hb2, hs2⟩ := run_append_lies (P := Tryz.prog) (w := W) (base := W.heap.size) (m := bs.length) (c := c) 24 24 5 (.int .u8 0) 1 1 Tryz.underlying24 (by kernel_rfl) rfl (by decide)
      (fun u hu => by simp at hu; obtain ⟨_, _, rfl⟩ := hu; rfl) (World.ownsRow_nil _ _ _ _) hl (by simp) (by unfold maxLen; omega) (by omega) (Nat.le_refl _)
  rw [Nat.zero_add, List.nil_append] at hown
  obtain ⟨A2, c2, rfl, hc2, hm3, hl2⟩ := own_parts hown
  exact ⟨A2, c2, W2, hr2, hown, hb2⟩
end Go.Proofs.YtnbknihaefkllaaGreatDoor.Lift
/- Plain mathematics of the internal keys: bytes in order, keys in order, and a number in eight bytes, the lowest first. -/
namespace Go.Proofs.YtnbknihaefkllaaGreatDoor.Ik

/-- Bytes in order: -1, 0, 1. -/
def cmpB : List Nat → List Nat → Int
  | [], [] => 0
  | [], _ :: _ => -1
  | _ :: _, [] => 1
  | a :: x, b :: y => if a < b then -1 else if b < a then 1 else cmpB x y
/-- Numbers in order. -/
def cmp3 (a b : Int) : Int := if a < b then -1 else if b < a then 1 else 0

theorem cmp3_one (a b : Int) : cmp3 a b = -1 ∨ cmp3 a b = 0 ∨ cmp3 a b = 1 := by unfold cmp3; split; simp; split <;> simp
theorem cmp3_swap (a b : Int) : cmp3 b a = -cmp3 a b := by unfold cmp3; split <;> split <;> (try split) <;> omega
theorem cmp3_zero (a b : Int) : cmp3 a b = 0 ↔ a = b := by unfold cmp3; split; omega; split <;> omega
theorem cmp3_lt (a b : Int) : cmp3 a b = -1 ↔ a < b := by unfold cmp3; split; omega; split <;> omega

theorem cmpB_one : ∀ x y : List Nat, cmpB x y = -1 ∨ cmpB x y = 0 ∨ cmpB x y = 1
  | [], [] => by simp [cmpB]
  | [], _ :: _ => by simp [cmpB]
  | _ :: _, [] => by simp [cmpB]
  | a :: x, b :: y => by
    unfold cmpB
    split
    · simp
    · split
      · simp
      · exact cmpB_one x y
theorem cmpB_swap : ∀ x y : List Nat, cmpB y x = -cmpB x y
  | [], [] => by simp [cmpB]
  | [], _ :: _ => by simp [cmpB]
  | _ :: _, [] => by simp [cmpB]
  | a :: x, b :: y => by
    have := cmpB_swap x y
    unfold cmpB
    by_cases h1 : a < b
    · rw [if_neg (by omega), if_pos h1, if_pos h1]; rfl
    · by_cases h2 : b < a
      · rw [if_pos h2, if_neg h1, if_pos h2]
      · rw [if_neg h2, if_neg h1, if_neg h1, if_neg h2]; exact this
theorem cmpB_zero : ∀ x y : List Nat, cmpB x y = 0 ↔ x = y
  | [], [] => by simp [cmpB]
  | [], _ :: _ => by simp [cmpB]
  | _ :: _, [] => by simp [cmpB]
  | a :: x, b :: y => by
    have := cmpB_zero x y
    unfold cmpB
    by_cases h1 : a < b
    · rw [if_pos h1]; simp; omega
    · by_cases h2 : b < a
      · rw [if_neg h1, if_pos h2]; simp; omega
      · rw [if_neg h1, if_neg h2, this]; simp; omega
theorem cmpB_self (x : List Nat) : cmpB x x = 0 := (cmpB_zero x x).2 rfl
theorem cmpB_trans : ∀ x y z : List Nat, cmpB x y = -1 → cmpB y z = -1 → cmpB x z = -1
  | [], [], _ => by simp [cmpB]
  | [], _ :: _, [] => by simp [cmpB]
  | [], _ :: _, _ :: _ => by simp [cmpB]
  | _ :: _, [], _ => by simp [cmpB]
  | _ :: _, _ :: _, [] => by simp [cmpB]
  | a :: x, b :: y, c :: z => by
    have ih := cmpB_trans x y z
    unfold cmpB
    intro h1 h2
    by_cases hab : a < b
    · by_cases hbc : b < c
      · rw [if_pos (by omega)]
      · by_cases hcb : c < b
        · rw [if_neg hbc, if_pos hcb] at h2; omega
        · rw [if_pos (by omega)]
    · by_cases hba : b < a
      · rw [if_neg hab, if_pos hba] at h1; omega
      · rw [if_neg hab, if_neg hba] at h1
        by_cases hbc : b < c
        · rw [if_pos (by omega)]
        · by_cases hcb : c < b
          · rw [if_neg hbc, if_pos hcb] at h2; omega
          · rw [if_neg hbc, if_neg hcb] at h2
            rw [if_neg (by omega), if_neg (by omega)]
            exact ih h1 h2

theorem drop_cons {α : Type} {x : List α} {k : Nat} {a : α} (h : x[k]? = some a) : x.drop k = a :: x.drop (k + 1) := by
  rw [List.drop_eq_getElem?_toList_append, h]; rfl
theorem cmpB_drop {x y : List Nat} {k a b : Nat} (hx : x[k]? = some a) (hy : y[k]? = some b) :
    cmpB (x.drop k) (y.drop k) = if a < b then -1 else if b < a then 1 else cmpB (x.drop (k + 1)) (y.drop (k + 1)) := by
  rw [drop_cons hx, drop_cons hy]
  conv => lhs; unfold cmpB
theorem cmpB_end {x y : List Nat} {k : Nat} (hk : k = x.length ∨ k = y.length) (h1 : k ≤ x.length) (h2 : k ≤ y.length) : cmpB (x.drop k) (y.drop k) = cmp3 x.length y.length := by
  unfold cmp3
  rcases hx : x.drop k with _ | ⟨a, x'⟩ <;> rcases hy : y.drop k with _ | ⟨b, y'⟩ <;> unfold cmpB <;>
    have e1 := congrArg List.length hx <;> have e2 := congrArg List.length hy <;> simp at e1 e2
  · rw [if_neg (by omega), if_neg (by omega)]
  · rw [if_pos (by omega)]
  · rw [if_neg (by omega), if_pos (by omega)]
  · omega

/-- Bytes as the model has them. -/
def u8s (x : List Nat) : List UInt8 := x.map fun a => UInt8.ofNat a
theorem u8_lt {a b : Nat} (ha : a < 256) (hb : b < 256) : (UInt8.ofNat a < UInt8.ofNat b) ↔ a < b := by
  rw [UInt8.lt_iff_toNat_lt]
  simp [UInt8.toNat_ofNat', Nat.mod_eq_of_lt ha, Nat.mod_eq_of_lt hb]
theorem u8_eq {a b : Nat} (ha : a < 256) (hb : b < 256) : (UInt8.ofNat a = UInt8.ofNat b) ↔ a = b := by
  constructor
  · intro h
    have := congrArg UInt8.toNat h
    simpa [UInt8.toNat_ofNat', Nat.mod_eq_of_lt ha, Nat.mod_eq_of_lt hb] using this
  · rintro rfl; rfl
theorem compareBytes_eq : ∀ x y : List Nat, (∀ a, a ∈ x → a < 256) → (∀ a, a ∈ y → a < 256) → Lib.compareBytes (u8s x) (u8s y) = cmpB x y
  | [], [], _, _ => by simp [u8s, Lib.compareBytes, cmpB]
  | [], _ :: _, _, _ => by simp [u8s, Lib.compareBytes, cmpB]
  | _ :: _, [], _, _ => by simp [u8s, Lib.compareBytes, cmpB]
  | a :: x, b :: y, hx, hy => by
    have ih := compareBytes_eq x y (fun c h => hx c (by simp [h])) (fun c h => hy c (by simp [h]))
    have ha := hx a (by simp)
    have hb := hy b (by simp)
    unfold u8s at ih ⊢
    simp only [List.map_cons, Lib.compareBytes, cmpB, u8_lt ha hb, u8_lt hb ha, ih]
theorem bytesLess_eq : ∀ x y : List Nat, (∀ a, a ∈ x → a < 256) → (∀ a, a ∈ y → a < 256) → Op.bytesLess (u8s x) (u8s y) = decide (cmpB x y < 0)
  | [], [], _, _ => by simp [u8s, Op.bytesLess, cmpB]
  | [], _ :: _, _, _ => by simp [u8s, Op.bytesLess, cmpB]
  | _ :: _, [], _, _ => by simp [u8s, Op.bytesLess, cmpB]
  | a :: x, b :: y, hx, hy => by
    have ih := bytesLess_eq x y (fun c h => hx c (by simp [h])) (fun c h => hy c (by simp [h]))
    have ha := hx a (by simp)
    have hb := hy b (by simp)
    unfold u8s at ih ⊢
    simp only [List.map_cons, Op.bytesLess, cmpB, ih]
    by_cases h1 : a < b
    · have : UInt8.ofNat a < UInt8.ofNat b := (u8_lt ha hb).2 h1
      simp [this, h1]
    · have n1 : ¬ UInt8.ofNat a < UInt8.ofNat b := fun h => h1 ((u8_lt ha hb).1 h)
      by_cases h2 : b < a
      · have n2 : ¬ UInt8.ofNat a = UInt8.ofNat b := fun h => by have := (u8_eq ha hb).1 h; omega
        simp [n1, n2, h1, h2]
      · obtain rfl : a = b := by omega
        simp
theorem u8s_inj {x y : List Nat} (hx : ∀ a, a ∈ x → a < 256) (hy : ∀ a, a ∈ y → a < 256) : u8s x = u8s y ↔ x = y := by
  constructor
  · intro h
    have := compareBytes_eq x y hx hy
    rw [h, compareBytes_eq y y hy hy, cmpB_self] at this
    exact (cmpB_zero x y).1 this.symm
  · rintro rfl; rfl

/-- A key: its bytes, its number, its kind. -/
structure K where
  key : List Nat
  seq : Nat
  kind : Int
/-- Keys in order. -/
def cmpK (a b : K) : Int := if cmpB a.key b.key ≠ 0 then cmpB a.key b.key else if cmp3 b.seq a.seq ≠ 0 then cmp3 b.seq a.seq else cmp3 b.kind a.kind
def K.ok (a : K) : Prop := (∀ c, c ∈ a.key → c < 256) ∧ a.seq < 18446744073709551616 ∧ -9223372036854775808 ≤ a.kind ∧ a.kind ≤ 9223372036854775807

theorem cmpK_one (a b : K) : cmpK a b = -1 ∨ cmpK a b = 0 ∨ cmpK a b = 1 := by
  unfold cmpK
  split
  · exact cmpB_one _ _
  · split
    · exact cmp3_one _ _
    · exact cmp3_one _ _
theorem cmpK_swap (a b : K) : cmpK b a = -cmpK a b := by
  unfold cmpK
  rw [cmpB_swap a.key b.key, cmp3_swap a.seq b.seq, cmp3_swap a.kind b.kind, cmp3_swap b.seq a.seq, cmp3_swap b.kind a.kind]
  have e1 := cmp3_swap (a.seq : Int) b.seq
  have e2 := cmp3_swap a.kind b.kind
  split <;> split <;> (try split) <;> (try split) <;> omega
theorem cmpK_far {a b : K} (h : a.key ≠ b.key) : cmpK a b = cmpB a.key b.key := by
  have e1 : cmpB a.key b.key ≠ 0 := fun e => h ((cmpB_zero _ _).1 e)
  unfold cmpK
  rw [if_pos e1]
theorem cmpK_near {a b : K} (h : a.key = b.key) : cmpK a b = if a.seq = b.seq then cmp3 b.kind a.kind else cmp3 b.seq a.seq := by
  have e1 := (cmpB_zero a.key b.key).2 h
  have e2 := cmp3_zero (b.seq : Int) a.seq
  unfold cmpK
  rw [if_neg (by omega)]
  by_cases h2 : a.seq = b.seq
  · rw [if_neg (by omega), if_pos h2]
  · rw [if_pos (by omega), if_neg h2]
theorem cmpK_zero (a b : K) : cmpK a b = 0 ↔ a.key = b.key ∧ a.seq = b.seq ∧ a.kind = b.kind := by
  by_cases h1 : a.key = b.key
  · rw [cmpK_near h1]
    by_cases h2 : a.seq = b.seq
    · rw [if_pos h2, cmp3_zero]
      exact ⟨fun h => ⟨h1, h2, h.symm⟩, fun h => h.2.2.symm⟩
    · rw [if_neg h2, cmp3_zero]
      exact ⟨fun h => absurd (by omega) h2, fun h => absurd h.2.1 h2⟩
  · rw [cmpK_far h1, cmpB_zero]
    exact ⟨fun h => absurd h h1, fun h => h.1⟩
theorem cmpK_self (a : K) : cmpK a a = 0 := (cmpK_zero a a).2 ⟨rfl, rfl, rfl⟩
theorem cmpK_lt (a b : K) : cmpK a b = -1 ↔ cmpB a.key b.key = -1 ∨ (a.key = b.key ∧ (b.seq < a.seq ∨ (a.seq = b.seq ∧ b.kind < a.kind))) := by
  by_cases h1 : a.key = b.key
  · have e0 := (cmpB_zero a.key b.key).2 h1
    rw [cmpK_near h1]
    by_cases h2 : a.seq = b.seq
    · rw [if_pos h2, cmp3_lt]
      exact ⟨fun h => .inr ⟨h1, .inr ⟨h2, h⟩⟩, fun h => by omega⟩
    · rw [if_neg h2, cmp3_lt]
      exact ⟨fun h => .inr ⟨h1, .inl (by omega)⟩, fun h => by omega⟩
  · rw [cmpK_far h1]
    exact ⟨fun h => .inl h, fun h => h.elim id fun h => absurd h.1 h1⟩
theorem cmpK_trans (a b c : K) (h1 : cmpK a b ≤ 0) (h2 : cmpK b c ≤ 0) : cmpK a c ≤ 0 := by
  have q1 : cmpK a b = -1 ∨ cmpK a b = 0 := by rcases cmpK_one a b with h | h | h <;> omega
  have q2 : cmpK b c = -1 ∨ cmpK b c = 0 := by rcases cmpK_one b c with h | h | h <;> omega
  suffices h : cmpK a c = -1 ∨ cmpK a c = 0 by omega
  rw [cmpK_lt, cmpK_zero] at q1 q2 ⊢
  rcases q1 with (h1 | ⟨k1, h1⟩) | ⟨k1, s1, n1⟩ <;> rcases q2 with (h2 | ⟨k2, h2⟩) | ⟨k2, s2, n2⟩
  · exact .inl (.inl (cmpB_trans _ _ _ h1 h2))
  · exact .inl (.inl (by rw [← k2]; exact h1))
  · exact .inl (.inl (by rw [← k2]; exact h1))
  · exact .inl (.inl (by rw [k1]; exact h2))
  · exact .inl (.inr ⟨k1.trans k2, by omega⟩)
  · exact .inl (.inr ⟨k1.trans k2, by omega⟩)
  · exact .inl (.inl (by rw [k1]; exact h2))
  · exact .inl (.inr ⟨k1.trans k2, by omega⟩)
  · exact .inr ⟨k1.trans k2, by omega, by omega⟩

/-- A number in n bytes, the lowest first. -/
def low (x : Nat) : Nat → List Nat
  | 0 => []
  | n + 1 => x % 256 :: low (x / 256) n
/-- The number that bytes are. -/
def num : List Nat → Nat
  | [] => 0
  | c :: l => c + 256 * num l
theorem low_length (x n : Nat) : (low x n).length = n := by
  induction n generalizing x with
  | zero => rfl
  | succ n ih => simp [low, ih]
theorem low_byte (x n : Nat) : ∀ c, c ∈ low x n → c < 256 := by
  induction n generalizing x with
  | zero => intro c h; simp [low] at h
  | succ n ih =>
    intro c h
    rcases List.mem_cons.1 h with rfl | h
    · exact Nat.mod_lt _ (by decide)
    · exact ih _ c h
theorem low_snoc (x n : Nat) : low x (n + 1) = low x n ++ [x / 256 ^ n % 256] := by
  induction n generalizing x with
  | zero => simp [low]
  | succ n ih =>
    rw [low, ih (x / 256)]
    rw [show low x (n + 1) = x % 256 :: low (x / 256) n from rfl, Nat.div_div_eq_div_mul, Nat.pow_succ, Nat.mul_comm 256]
    rfl
theorem num_low (x n : Nat) (h : x < 256 ^ n) : num (low x n) = x := by
  induction n generalizing x with
  | zero => simp [low, num]; simp at h; omega
  | succ n ih =>
    rw [low, num, ih (x / 256) (by rw [Nat.pow_succ] at h; exact Nat.div_lt_of_lt_mul (by omega))]
    omega
theorem num_lt (l : List Nat) (h : ∀ c, c ∈ l → c < 256) : num l < 256 ^ l.length := by
  induction l with
  | nil => simp [num]
  | cons c l ih =>
    have h1 := h c (by simp)
    have h2 := ih fun d hd => h d (by simp [hd])
    rw [num, List.length_cons, Nat.pow_succ]
    omega
theorem num_snoc (l : List Nat) (c : Nat) : num (l ++ [c]) = num l + c * 256 ^ l.length := by
  induction l with
  | nil => simp [num]
  | cons d l ih =>
    rw [List.cons_append, num, ih, num, List.length_cons, Nat.pow_succ, Nat.mul_add]
    rw [show 256 * (c * 256 ^ l.length) = c * (256 ^ l.length * 256) by rw [Nat.mul_comm (256 ^ _), ← Nat.mul_assoc, Nat.mul_comm 256 c, Nat.mul_assoc], Nat.add_assoc]
theorem low_num (l : List Nat) (h : ∀ c, c ∈ l → c < 256) : low (num l) l.length = l := by
  induction l with
  | nil => rfl
  | cons c l ih =>
    have h1 := h c (by simp)
    rw [List.length_cons, low, num, show (c + 256 * num l) % 256 = c by omega, show (c + 256 * num l) / 256 = num l by omega, ih fun d hd => h d (by simp [hd])]
end Go.Proofs.YtnbknihaefkllaaGreatDoor.Ik
/- Bytes in memory: what bytes.Clone answers; bytes as a string. (XLow has the same and more: take one of the two.) -/
namespace Go.Proofs.YtnbknihaefkllaaGreatDoor.Ik
set_option linter.unusedVariables false
set_option linter.unusedSimpArgs false
open Go.RowKit Lift
/-- A byte. -/
abbrev vb (c : Nat) : Value := .int .u8 (c : Int)
theorem cells_at {w : World} {ad : Addr} {bs : List Nat} (h : ∀ (j : Nat) (u : Value), (bs.map vb)[j]? = some u → w.cell? (ad.add j) = some u) :
    ∀ (j c : Nat), bs[j]? = some c → w.cell? (ad.add j) = some (.int .u8 (c : Int)) :=
  fun j c hj => h j _ (by rw [List.getElem?_map, hj]; rfl)
theorem str_list (bs : List Nat) : (str bs).data.toList = u8s bs := by
  have h : ∀ (l : List Nat) (r : ByteArray), ((l.map fun b : Nat => (b : Int)).foldl (fun r n => r.push (UInt8.ofNat n.toNat)) r).data.toList = r.data.toList ++ u8s l := by
    intro l
    induction l with
    | nil => intro r; simp [u8s]
    | cons c l ih =>
      intro r
      rw [List.map_cons, List.foldl_cons, ih]
      simp [u8s, ByteArray.push]
  have := h bs ByteArray.empty
  unfold str
  rw [this]
  rfl
theorem str_eq {x y : List Nat} (hx : ∀ a, a ∈ x → a < 256) (hy : ∀ a, a ∈ y → a < 256) : ((str x).toList == (str y).toList) = decide (x = y) := by
  rw [Lib.toList_data, Lib.toList_data, str_list, str_list]
  rw [Bool.eq_iff_iff, beq_iff_eq, decide_eq_true_iff]
  exact u8s_inj hx hy
set_option maxHeartbeats 400000 in
theorem clone_any (ad : Addr) (c : Nat) (xs : List Nat) (w : World) (hl : Lies w w.heap.size (some ad) (xs.map vb)) (hm : xs.length ≤ 140737488354000) :
    Calls Tryz.prog 63 #[.slice (some ad) xs.length c] w (Made w.heap.size w xs) := by
  have HL := Lib.hid hl
  have q22 : ∀ W : World, Sem.run Tryz.prog (binOp .eql 24 (.slice (some ad) xs.length c) (.slice none 0 0)) W = .ok (.bool false) W := fun W => Lib.run_eql_slice_nil W _ _ (some ad) xs.length c 0 0 Tryz.underlying24
  clear hl
  have hb0 := Joins.below_alloc1 w (.cells #[] 5)
  have hown : (w.alloc (.cells #[] 5)).ownsRow w.heap.size 5 1 (.slice (some ⟨w.heap.size, 0, none⟩) 0 0) 0 [] :=
    ⟨rfl, .inr ⟨w.heap.size, 0, #[], rfl, Nat.le_refl _, heap_alloc_new w _, Nat.le_refl _, by decide, rfl, rfl⟩⟩
  obtain ⟨v2, W2, hr2, hown2, hb2, hs2⟩ := run_append_lies (P := Tryz.prog) (m := xs.length) (c := c) 24 24 5 (.int .u8 0) 1 1 Tryz.underlying24 (by kernel_rfl) rfl (by decide)
      (fun u hu => by simp at hu; obtain ⟨_, _, rfl⟩ := hu; rfl) hown (HL.out.below hb0) (by simp) (by unfold maxLen; omega) (by omega) hb0.size
  rw [Nat.zero_add, List.nil_append] at hown2
  have HO := Lib.hid hown2
  have HB := Lib.hid (hb0.trans hb2)
  have HR := Lib.hid hr2
  clear hown hown2 hb0 hb2 hr2
  go_enter Tryz.func63, Tryz.ntmps63
  go_wp2_with (at_builtin; refine wpList_append_run rfl _ _ 24 rfl rfl rfl HR.out ?_)
  go_ret
  exact ⟨_, rfl, HO.out, HB.out⟩
theorem clone_nil (w : World) : Calls Tryz.prog 63 #[.slice none 0 0] w fun e w' => e = .returned (.slice none 0 0) ∧ w = w' := by
  have q22 : ∀ W : World, Sem.run Tryz.prog (binOp .eql 24 (.slice none 0 0) (.slice none 0 0)) W = .ok (.bool true) W := fun W => Lib.run_eql_slice_nil W _ _ none 0 0 0 0 Tryz.underlying24
  go_enter Tryz.func63, Tryz.ntmps63
  go_wp2_with fail
  go_ret
  exact ⟨rfl, rfl⟩
end Go.Proofs.YtnbknihaefkllaaGreatDoor.Ik
/- A number in bytes, the lowest first: what the document's own Low and Get, and bytes.Clone, answer; bytes as a string. -/
namespace Go.Proofs.YtnbknihaefkllaaGreatDoor.Ik
set_option linter.unusedVariables false
set_option linter.unusedSimpArgs false
open Go.RowKit Lift
theorem tail_or (s k : Nat) (hs : s ≤ 72057594037927935) (hk : k < 256) : bits .or .u64 ((s : Int) * 256) (k : Int) = ((s * 256 + k : Nat) : Int) := by
  have h := u64_or_nat (s * 256) k (by omega) (by omega)
  rw [show ((s * 256 : Nat) : Int) = (s : Int) * 256 by omega] at h
  rw [h]
  have e := Nat.two_pow_add_eq_or_of_lt (i := 8) (b := k) (by omega) s
  rw [show 2 ^ 8 * s = s * 256 by omega] at e
  rw [← e]
theorem pow8_cast (j : Nat) : (2 : Int) ^ (8 * j) = ((256 ^ j : Nat) : Int) := by
  rw [show (256 : Nat) = 2 ^ 8 from rfl, ← Nat.pow_mul, Int.natCast_pow]
  rfl
theorem byte_at (t j : Nat) : (t : Int) / 2 ^ (8 * j) % 256 = ((t / 256 ^ j % 256 : Nat) : Int) := by
  rw [pow8_cast, ← Int.natCast_ediv]
  omega
theorem low_next (xs : List Nat) (t j : Nat) (z : Int) (h : z = (t : Int) / 2 ^ (8 * j) % 256) : (xs ++ low t j).map vb ++ [Value.int .u8 z] = (xs ++ low t (j + 1)).map vb := by
  rw [low_snoc, h, byte_at]
  simp
theorem nat_in (s k : Nat) : ((s : Int) * 256 + (k : Int)) = ((s * 256 + k : Nat) : Int) := by omega
theorem and_byte (x j : Nat) (hx : x < 18446744073709551616) : bits .and .u64 ((x : Int) / 2 ^ (8 * j)) 255 % 256 = (x : Int) / 2 ^ (8 * j) % 256 := by
  rw [pow8_cast, ← Int.natCast_ediv]
  have h1 := u64_and_nat (x / 256 ^ j) 255 (Nat.lt_of_le_of_lt (Nat.div_le_self _ _) hx) (by decide)
  rw [show ((255 : Nat) : Int) = 255 from rfl, show x / 256 ^ j &&& 255 = x / 256 ^ j % 2 ^ 8 from Nat.and_two_pow_sub_one_eq_mod (x / 256 ^ j) 8] at h1
  rw [h1]
  omega
set_option maxRecDepth 100000 in
set_option maxHeartbeats 400000 in
theorem low_any (A : Option Addr) (c B x n : Nat) (bs : List Nat) (w : World) (hl : Lies w B A (bs.map vb)) (hm : bs.length ≤ 140737488354000) (hx : x < 18446744073709551616) (hn : n ≤ 8) :
    Calls Tryz.prog 59 #[.slice A bs.length c, .int .u64 (x : Int), .int .i64 (n : Int)] w (Made w.heap.size w (bs ++ low x n)) := by
  obtain ⟨A2, c2, W2, hr, hown, hb⟩ := fresh_bytes A c B bs w hl (by omega)
  have HR := Lib.hid hr
  have HB := Lib.hid hb
  have hz := hb.size
  clear hr hb hl
  go_enter Tryz.func59, Tryz.ntmps59
  go_wp2_with (at_builtin; refine wpList_append_run rfl _ _ 24 rfl rfl rfl HR.out ?_)
  go_loopw [7, 8] (fun o i wr => ∃ j : Nat, j ≤ n ∧ i = .int .i64 j ∧ wr.ownsRow w.heap.size 5 1 o (bs.length + j) ((bs ++ low x j).map vb) ∧ Hid (Below w.heap.size w wr) ∧ w.heap.size ≤ wr.heap.size) (fun _ i _ => 10 - (intOf i).toNat)
  case atStart => exact ⟨0, by omega, rfl, by simpa [low] using hown, HB, hz⟩
  case round =>
    clear hown
    obtain ⟨j, hj, rfl, hown, hb, hsz⟩ := hrel
    by_cases hlt : j < n
    · obtain ⟨v', w1, hrun, hown1, hb1, hs1⟩ := run_append_one (P := Tryz.prog) (u := .int .u8 (bits .and .u64 ((x : Int) / 2 ^ (8 * j)) 255 % 256)) 24 24 5 (.int .u8 0) 1 Tryz.underlying24 (by kernel_rfl) rfl rfl hown (by unfold maxLen; omega) (by omega) hsz
      rw [low_next _ _ _ _ (and_byte x j hx)] at hown1
      have HO1 := Lib.hid hown1
      have HB3 := Lib.hid (hb.out.trans hb1)
      have HR1 := Lib.hid hrun
      clear hown hown1 hb1 hrun
      go_wp2_with (at_builtin; refine wpList_append_run rfl _ _ 24 rfl rfl rfl HR1.out ?_)
      go_roundw
      case rel => exact ⟨j + 1, by omega, by go_num, by rw [← Nat.add_assoc]; exact HO1.out, HB3, by omega⟩
      case measure => simp [intOf]; omega
    · obtain rfl : j = n := by omega
      have HO1 := Lib.hid hown
      clear hown
      go_wp2_with fail
      go_ret
      refine ⟨_, rfl, ?_, hb.out⟩
      rw [List.length_append, low_length]
      exact HO1.out
theorem num_drop {L : List Nat} {j c : Nat} (h : L[j]? = some c) : num (L.drop j) = c + 256 * num (L.drop (j + 1)) := by
  rw [drop_cons h]; rfl
theorem num_cut {bs : List Nat} (h : ∀ c, c ∈ bs → c < 256) (at' n j : Nat) (hj : 1 ≤ j) (hn : n ≤ 8) : num (((bs.drop at').take n).drop j) < 72057594037927936 := by
  have h1 := num_lt (((bs.drop at').take n).drop j) fun c hc => h c (List.mem_of_mem_drop (List.mem_of_mem_take (List.mem_of_mem_drop hc)))
  have h2 : (((bs.drop at').take n).drop j).length ≤ 7 := by simp; omega
  have h3 : 256 ^ (((bs.drop at').take n).drop j).length ≤ 256 ^ 7 := Nat.pow_le_pow_right (by decide) h2
  omega
theorem cut_at {bs : List Nat} {at' n j c : Nat} (hj : j < n) (h : bs[at' + j]? = some c) : ((bs.drop at').take n)[j]? = some c := by
  rw [List.getElem?_take_of_lt hj, List.getElem?_drop]; exact h
set_option maxRecDepth 100000 in
set_option maxHeartbeats 400000 in
theorem get_any (A : Option Addr) (cap B at' n : Nat) (bs : List Nat) (w : World) (hl : Lies w B A (bs.map vb)) (hcap : bs.length ≤ cap) (hm : cap ≤ maxLen) (hb : ∀ c, c ∈ bs → c < 256) (hn : n ≤ 8) (hat : at' + n ≤ bs.length) :
    Calls Tryz.prog 68 #[.slice A bs.length cap, .int .i64 (at' : Int), .int .i64 (n : Int)] w fun e w' => e = .returned (.int .u64 (num ((bs.drop at').take n) : Nat)) ∧ w = w' := by
  unfold maxLen at hm
  have HL := Lib.hid hl
  have H8 := Lib.hid hb
  clear hl hb
  go_enter Tryz.func68, Tryz.ntmps68
  go_wp2_with fail
  go_loop [7, 8] (fun x i => ∃ j y : Nat, j ≤ n ∧ i = .int .i64 ((j : Int) - 1) ∧ x = .int .u64 y ∧ Hid (y = num (((bs.drop at').take n).drop j)) ∧ y < 18446744073709551616) (fun _ i => (intOf i + 1).toNat)
  case atStart => exact ⟨n, 0, by omega, rfl, rfl, Lib.hid (by rw [List.drop_of_length_le (by simp; omega)]; rfl), by decide⟩
  case round =>
    obtain ⟨j, y, hj, rfl, rfl, hy, hy64⟩ := hrel
    by_cases hlt : 0 < j
    · obtain ⟨i, rfl⟩ : ∃ i, j = i + 1 := ⟨j - 1, by omega⟩
      obtain ⟨ad, hA, _, hcell⟩ := HL.out.place (by simp; omega)
      subst hA
      obtain ⟨c, hc⟩ : ∃ c : Nat, bs[at' + i]? = some c := ⟨_, List.getElem?_eq_getElem (by omega)⟩
      have c8 := H8.out c (List.mem_of_getElem? hc)
      have h1 := cells_at hcell _ c hc
      have HD := Lib.hid (num_drop (cut_at (n := n) (by omega) hc))
      have hy56 := num_cut H8.out at' n (i + 1) (by omega) hn
      rw [← hy.out] at hy56
      have e := tail_or y c (by omega) c8
      have hy8 : y * 256 + c < 18446744073709551616 := by omega
      clear hcell hc
      have ei : ((i + 1 : Nat) : Int) - 1 = (i : Int) := by omega
      rw [ei]
      clear ei
      go_wp2_with fail
      go_round
      case rel => exact ⟨i, y * 256 + c, by omega, by go_num, by go_num, Lib.hid (by rw [HD.out, ← hy.out]; omega), by omega⟩
      case measure => simp [intOf]
    · obtain rfl : j = 0 := by omega
      have HY : Hid (y = num ((bs.drop at').take n)) := Lib.hid hy.out
      go_wp2_with fail
      go_ret
      exact ⟨by rw [← HY.out]; rfl, rfl⟩
theorem or_step (t c j : Nat) (hj : j < 8) (ht : t < 256 ^ j) (hc : c < 256) : bits .or .u64 (t : Int) (IntKind.u64.wrap ((c : Int) * 2 ^ (8 * j))) = ((t + c * 256 ^ j : Nat) : Int) := by
  have hp : 256 ^ j ≤ 256 ^ 7 := Nat.pow_le_pow_right (by decide) (by omega)
  have p7 : (256 : Nat) ^ 7 = 72057594037927936 := by decide
  have hm : c * 256 ^ j ≤ 255 * 256 ^ 7 := Nat.mul_le_mul (by omega) hp
  rw [pow8_cast, ← Int.natCast_mul]
  rw [show IntKind.u64.wrap ((c * 256 ^ j : Nat) : Int) = ((c * 256 ^ j : Nat) : Int) by simp only [IntKind.wrap_u64]; omega]
  rw [u64_or_nat _ _ (by omega) (by omega)]
  have e := Nat.two_pow_add_eq_or_of_lt (i := 8 * j) (b := t) (by rw [Nat.pow_mul]; exact ht) c
  rw [show 2 ^ (8 * j) * c = c * 256 ^ j by rw [Nat.pow_mul, Nat.mul_comm]] at e
  rw [Nat.or_comm, ← e, Nat.add_comm]
theorem num_step {bs : List Nat} {n j d y : Nat} (hd : bs[n + j]? = some d) (hy : y = num ((bs.drop n).take j)) : y + d * 256 ^ j = num ((bs.drop n).take (j + 1)) := by
  have h1 : (bs.drop n)[j]? = some d := by rw [List.getElem?_drop]; exact hd
  have h2 : ((bs.drop n).take j).length = j := by
    have := (List.getElem?_eq_some_iff.1 h1).1
    rw [List.length_take]; omega
  rw [List.take_add_one, h1, Option.toList_some, num_snoc, h2, hy]
theorem pow_step {y d j : Nat} (h : y < 256 ^ j) (hd : d < 256) : y + d * 256 ^ j < 256 ^ (j + 1) := by
  have : d * 256 ^ j ≤ 255 * 256 ^ j := Nat.mul_le_mul_right _ (by omega)
  rw [Nat.pow_succ]
  omega
end Go.Proofs.YtnbknihaefkllaaGreatDoor.Ik
/- The texts of the bytes' two halves, under one name. -/
/- Operations of a batch, as they lie in memory: a slice of structs with two slices each. -/
namespace Go.Proofs.YtnbknihaefkllaaGreatDoor.Bt
set_option linter.unusedVariables false
set_option linter.unusedSimpArgs false
open Go.ChangeShapes Go.WideShapes Go.ChangeAt Go.RowKit Lift Ik

/-- An operation as it lies: its kind, and address, capacity and bytes of its key and its value. -/
structure D where
  kind : Int
  ka : Option Addr
  kc : Nat
  key : List Nat
  va : Option Addr
  vc : Nat
  val : List Nat
abbrev D.v (d : D) : Value := .agg #[.int .i64 d.kind, .slice d.ka d.key.length d.kc, .slice d.va d.val.length d.vc]
def D.cells (d : D) : List Value := [.int .i64 d.kind, .slice d.ka d.key.length d.kc, .slice d.va d.val.length d.vc]
def cellsL (L : List D) : List Value := L.flatMap D.cells
theorem cellsL_length (L : List D) : (cellsL L).length = L.length * 3 := by
  induction L with
  | nil => rfl
  | cons d L ih => simp only [cellsL, List.flatMap_cons, List.length_append, List.length_cons] at ih ⊢; rw [ih]; simp [D.cells]; omega
theorem cellsL_append (L M : List D) : cellsL (L ++ M) = cellsL L ++ cellsL M := by simp [cellsL]
theorem cellsL_at {L : List D} {i : Nat} {d : D} (h : L[i]? = some d) (j : Nat) (hj : j < 3) : (cellsL L)[i * 3 + j]? = d.cells[j]? := by
  induction L generalizing i with
  | nil => simp at h
  | cons e L ih =>
    have hc : cellsL (e :: L) = e.cells ++ cellsL L := rfl
    rw [hc]
    cases i with
    | zero =>
      simp at h; subst h
      rw [List.getElem?_append_left (by simp [D.cells]; omega)]; simp
    | succ i =>
      simp at h
      rw [List.getElem?_append_right (by simp [D.cells]; omega), ← ih h]
      congr 1
      simp [D.cells]; omega
structure D.Ok (w : World) (R : Nat → Prop) (d : D) : Prop where
  kl : LiesP w R d.ka (d.key.map vb)
  kc : d.key.length ≤ d.kc
  km : d.kc ≤ maxLen
  k8 : ∀ c, c ∈ d.key → c < 256
  vl : LiesP w R d.va (d.val.map vb)
  vc : d.val.length ≤ d.vc
  vm : d.vc ≤ maxLen
  v8 : ∀ c, c ∈ d.val → c < 256
  lo : -9223372036854775808 ≤ d.kind
  hi : d.kind ≤ 9223372036854775807
theorem D.Ok.later {w w' : World} {R R' : Nat → Prop} {d : D} (h : d.Ok w R) (hk : ∀ k, R k → w'.heap[k]? = w.heap[k]?) (hR : ∀ k, R k → R' k) : d.Ok w' R' :=
  ⟨h.kl.later hk hR, h.kc, h.km, h.k8, h.vl.later hk hR, h.vc, h.vm, h.v8, h.lo, h.hi⟩
/-- A slice of operations. -/
structure Ops (w : World) (B : Nat) (A : Option Addr) (c : Nat) (L : List D) : Prop where
  lies : Lies w B A (cellsL L)
  len : L.length ≤ c
  cap : c ≤ maxLen
  ok : ∀ d, d ∈ L → d.Ok w (· < B)
section
variable {w w' : World} {B : Nat} {A : Option Addr} {c : Nat} {L : List D}
theorem Ops.below (h : Ops w B A c L) (hb : Below B w w') : Ops w' B A c L := ⟨h.lies.below hb, h.len, h.cap, fun d hd => (h.ok d hd).later hb.block fun _ h => h⟩
theorem Ops.up {B' : Nat} (h : Ops w B A c L) (hB : B ≤ B') : Ops w B' A c L := ⟨h.lies.up hB, h.len, h.cap, fun d hd => (h.ok d hd).later (fun _ _ => rfl) fun _ h => Nat.lt_of_lt_of_le h hB⟩
theorem Ops.next (h : Ops w w.heap.size A c L) (hb : Below w.heap.size w w') : Ops w' w'.heap.size A c L := (h.below hb).up hb.size
theorem Ops.zero (w : World) (B : Nat) : Ops w B none 0 [] := ⟨.inl rfl, Nat.le_refl _, by decide, fun _ h => by simp at h⟩
/-- The cells of one operation, as a walk spells them; the operation, loaded whole. -/
theorem Ops.place (h : Ops w B A c L) {i : Nat} {d : D} (hd : L[i]? = some d) :
    ∃ ad p : Addr, A = some ad ∧ ad.block < B ∧ ad.add (i * 3) = p ∧ p.block = ad.block ∧ w.cell? p = some (.int .i64 d.kind) ∧ w.cell? ⟨p.block, p.off + 1, none⟩ = some (.slice d.ka d.key.length d.kc) ∧
      w.cell? ⟨p.block, p.off + 2, none⟩ = some (.slice d.va d.val.length d.vc) := by
  have hl := (List.getElem?_eq_some_iff.1 hd).1
  obtain ⟨ad, ha, hb, hc⟩ := h.lies.place (by rw [cellsL_length]; omega)
  have e : ∀ j : Nat, j ≠ 0 → (⟨(ad.add (i * 3)).block, (ad.add (i * 3)).off + j, none⟩ : Addr) = ad.add (i * 3 + j) := by
    intro j hj
    have hne : ¬ i * 3 + j = 0 := by omega
    unfold Addr.add
    rw [if_neg hne]
    split <;> simp <;> omega
  refine ⟨ad, _, ha, hb, rfl, add_block _ _, hc _ _ (by have := cellsL_at hd 0 (by omega); simpa [D.cells] using this), ?_, ?_⟩
  · rw [e 1 (by decide)]; exact hc _ _ (by have := cellsL_at hd 1 (by omega); simpa [D.cells] using this)
  · rw [e 2 (by decide)]; exact hc _ _ (by have := cellsL_at hd 2 (by omega); simpa [D.cells] using this)
theorem load_op {p : Addr} {d : D} (h0 : w.cell? p = some (.int .i64 d.kind)) (h1 : w.cell? ⟨p.block, p.off + 1, none⟩ = some (.slice d.ka d.key.length d.kc)) (h2 : w.cell? ⟨p.block, p.off + 2, none⟩ = some (.slice d.va d.val.length d.vc)) :
    Sem.run Tryz.prog (loadVar 51 p) w = .ok d.v w := by
  have hl := run_loadCells_list (P := Tryz.prog) w p d.cells (fun j v hj => by
    rcases j with _ | _ | _ | j
    · simp [D.cells] at hj; subst hj; exact h0
    · simp [D.cells] at hj; subst hj; exact h1
    · simp [D.cells] at hj; subst hj; exact h2
    · simp [D.cells] at hj)
  have hagg : Sem.run Tryz.prog (isAgg 51) w = .ok true w := by
    unfold isAgg
    rw [Sem.run_bind, run_underlying Tryz.underlying51 w]
    simp
  obtain ⟨i, hi, hs⟩ : ∃ i, Tryz.prog.info? 51 = some i ∧ i.size = 3 := by
    have : (Tryz.prog.info? 51).map (·.size) = some 3 := by kernel_rfl
    cases hq : Tryz.prog.info? 51 with
    | none => rw [hq] at this; cases this
    | some i => rw [hq] at this; exact ⟨i, rfl, by simpa using this⟩
  have hl3 : (loadCells p 3).run Tryz.prog w = .ok #[.int .i64 d.kind, .slice d.ka d.key.length d.kc, .slice d.va d.val.length d.vc] w := hl
  simp [loadVar, Sem.run_bind, hagg, sizeOf, typeInfo, hi, hs, hl3]
end

theorem cellsL_one {L : List D} : ∀ u, u ∈ cellsL L → u.oneCell' = true := by
  intro u hu
  obtain ⟨d, _, h⟩ := List.mem_flatMap.1 hu
  simp [D.cells] at h
  rcases h with rfl | rfl | rfl <;> rfl
/-- append(l, more...) of operations, onto a slice of the call's own. -/
theorem append_ops {w : World} {base B c : Nat} {v : Value} {A : Option Addr} {L M : List D} (hown : w.ownsRow base 51 3 v L.length (cellsL L)) (hl : Lies w B A (cellsL M)) (hn : L.length + M.length ≤ 1000) (hbase : base ≤ w.heap.size) :
    ∃ v' w', Sem.run Tryz.prog (Builtin.append_ #[36, 36] 36 #[v, .slice A M.length c]) w = .ok v' w' ∧ w'.ownsRow base 51 3 v' (L ++ M).length (cellsL (L ++ M)) ∧ Below base w w' ∧ w.heap.size ≤ w'.heap.size := by
  obtain ⟨v', w', h1, h2, h3, h4⟩ := run_append_lies (P := Tryz.prog) (m := M.length) (c := c) 36 36 51 (.agg #[.int .i64 0, .slice none 0 0, .slice none 0 0]) 3 56 Tryz.underlying36 (by kernel_rfl) rfl (by decide)
    cellsL_one hown hl (cellsL_length M) (by unfold maxLen; omega) (by omega) hbase
  exact ⟨v', w', h1, by rw [List.length_append, cellsL_append]; exact h2, h3, h4⟩

set_option maxRecDepth 100000 in
theorem open_ops_at {H : Type} {enc : TypeId × Value → H} {W : World} {v : Value} {y : DataW H × List MemPlace} {n : Nat} (h : DataW.trod enc Tryz.prog W 0 (fun _ => true) true n 36 [v] = some y)
    (hlt : ∀ x, x ∈ y.2 → x.block < W.heap.size) : ∃ (A : Option Addr) (c : Nat) (L : List D), v = .slice A L.length c ∧ Ops W W.heap.size A c L := by
  have h3 : Tryz.prog.cellsOf 51 = 3 := by kernel_rfl
  have c1 : Tryz.prog.cellsOf 3 = 1 := by kernel_rfl
  have c2 : Tryz.prog.cellsOf 24 = 1 := by kernel_rfl
  rcases Deep.open_slice Tryz.underlying36 h with ⟨hcs, _⟩ | ⟨a, len, cap, m, n', E, Pl, hcs, _, hl, hm, hmm, rfl, hx⟩
  · simp at hcs
    subst hcs
    exact ⟨none, 0, [], rfl, Ops.zero _ _⟩
  · simp at hcs hmm
    subst hcs hmm
    rw [h3] at hx hlt
    have each : ∀ i, i < len → ∃ d : D, (∀ j, j < 3 → W.cell? (a.add (i * 3 + j)) = d.cells[j]?) ∧ d.Ok W (· < W.heap.size) := by
      intro i hi
      obtain ⟨cs', h1, h2⟩ := hx i (by omega)
      obtain ⟨_, hlen, hcell⟩ := World.cells?_some h1
      obtain ⟨y0, y1, y2, n2, hy, _, t0, t1, t2⟩ := Deep.trod_struct3 Tryz.underlying51 h2
      match cs', hlen with
      | [v0, v1, v2], _ =>
        have hpl : ∀ x, x ∈ y0.2 ++ (y1.2 ++ y2.2) → x.block < W.heap.size := fun x hx2 => hlt x (List.mem_append_right _ (List.mem_flatMap.2 ⟨i, List.mem_range.2 (by omega), by
          have := congrArg Prod.snd hy; simp only at this; rw [this]; exact hx2⟩))
        obtain ⟨k, rfl, wk⟩ := open_int_at (k := .i64) (n := n2) (y := y0) Tryz.underlying3 (v := v0) (by simpa [c1] using t0)
        obtain ⟨A1, q1, zs1, rfl, hc1, hm1, hl1, hw1⟩ := open_nums_at Tryz.underlying24 Tryz.underlying5 (by kernel_rfl) (n := n2) (y := y1) (v := v1) (by simpa [c2] using t1) (fun x hx2 => hpl x (by simp [hx2]))
        obtain ⟨A2, q2, zs2, rfl, hc2, hm2, hl2, hw2⟩ := open_nums_at Tryz.underlying24 Tryz.underlying5 (by kernel_rfl) (n := n2) (y := y2) (v := v2) (by simpa [c2] using t2) (fun x hx2 => hpl x (by simp [hx2]))
        obtain ⟨bs1, rfl, hz1⟩ := as_nat zs1 fun n hn => (u8_of (hw1 n hn)).1
        obtain ⟨bs2, rfl, hz2⟩ := as_nat zs2 fun n hn => (u8_of (hw2 n hn)).1
        rw [List.map_map] at hl1 hl2
        rw [List.length_map] at hc1 hc2 hcell
        have b1 := i64_of wk
        refine ⟨⟨k, A1, q1, bs1, A2, q2, bs2⟩, fun j hj => ?_, ⟨hl1.p fun _ h => h, hc1, hm1, fun b hb => ?_, hl2.p fun _ h => h, hc2, hm2, fun b hb => ?_, b1.1, b1.2⟩⟩
        · have := hcell j hj
          rw [Deep.add_add] at this
          rw [this]
          simp [D.cells]
        · have := (u8_of (hw1 _ (hz1 b hb))).2; omega
        · have := (u8_of (hw2 _ (hz2 b hb))).2; omega
    obtain ⟨f, hf⟩ : ∃ f : Nat → D, ∀ i, i < len → (∀ j, j < 3 → W.cell? (a.add (i * 3 + j)) = (f i).cells[j]?) ∧ (f i).Ok W (· < W.heap.size) := by
      by_cases h0 : len = 0
      · exact ⟨fun _ => ⟨0, none, 0, [], none, 0, []⟩, fun i hi => by omega⟩
      · haveI : Inhabited D := ⟨⟨0, none, 0, [], none, 0, []⟩⟩
        exact Deep.choose_lt each
    have hL : ((List.range len).map f).length = len := by simp
    refine ⟨some a, m, (List.range len).map f, by rw [hL], ?_, by rw [hL]; exact hl, hm, fun d hd => ?_⟩
    · by_cases h0 : len = 0
      · left; subst h0; rfl
      · refine .inr ⟨a, rfl, ?_, fun j u hu => ?_⟩
        · exact hlt (.cell a.block (a.off + 0)) (List.mem_append_left _ (by unfold MemPlace.row; exact List.mem_map.2 ⟨0, by simp; omega, rfl⟩))
        · have hj := (List.getElem?_eq_some_iff.1 hu).1
          rw [cellsL_length, hL] at hj
          have hd : ((List.range len).map f)[j / 3]? = some (f (j / 3)) := by
            rw [List.getElem?_map, List.getElem?_range (by omega)]; rfl
          have h1 := cellsL_at hd (j % 3) (Nat.mod_lt _ (by decide))
          rw [show j / 3 * 3 + j % 3 = j by omega, hu] at h1
          have h2 := (hf (j / 3) (by omega)).1 (j % 3) (Nat.mod_lt _ (by decide))
          rw [show j / 3 * 3 + j % 3 = j by omega] at h2
          rw [h2, ← h1]
    · obtain ⟨i, hi, rfl⟩ := List.mem_map.1 hd
      exact (hf i (by simpa using hi)).2

set_option maxRecDepth 100000 in
/-- A parameter that is a slice of operations. -/
theorem open_ops {H : Type} {enc : TypeId × Value → H} {W : World} {v : Value} {d : DataW H} {p : List MemPlace} {base : Nat} (hok : Value.okWide Tryz.prog W .any base 36 v)
    (h : DataW.Trod enc Tryz.prog W 0 (fun _ => true) true 36 v d p) (hlt : ∀ x, x ∈ p → x.block < W.heap.size) :
    ∃ (A : Option Addr) (c : Nat) (L : List D), v = .slice A L.length c ∧ Ops W W.heap.size A c L := by
  obtain ⟨a0, len, cap, rfl⟩ := okWide_slice Tryz.underlying36 hok
  obtain ⟨fuel, hf⟩ := h
  exact open_ops_at (n := fuel) (y := (d, p)) (by simpa [Value.cells] using hf) hlt
set_option maxRecDepth 100000 in
/-- A parameter that is a batch. -/
theorem open_batch {H : Type} {enc : TypeId × Value → H} {W : World} {v : Value} {d : DataW H} {p : List MemPlace} {base : Nat} (hok : Value.okWide Tryz.prog W .any base 38 v)
    (h : DataW.Trod enc Tryz.prog W 0 (fun _ => true) true 38 v d p) (hlt : ∀ x, x ∈ p → x.block < W.heap.size) :
    ∃ (s : Nat) (A : Option Addr) (c : Nat) (L : List D), v = .agg #[.int .u64 (s : Int), .slice A L.length c] ∧ s < 18446744073709551616 ∧ Ops W W.heap.size A c L := by
  obtain ⟨v0, v1, y0, y1, n, rfl, rfl, rfl, h0, h1⟩ := Joins.open_agg2 Tryz.underlying38 (by kernel_rfl) (by kernel_rfl) hok h
  obtain ⟨s, rfl, ws⟩ := open_int_at Tryz.underlying35 h0
  obtain ⟨A, c, L, rfl, hL⟩ := open_ops_at h1 (fun x hx => hlt x (by simp [hx]))
  obtain ⟨m, rfl⟩ := Int.eq_ofNat_of_zero_le (u64_of ws).1
  have bm := (u64_of ws).2
  exact ⟨m, A, c, L, rfl, by omega, hL⟩
end Go.Proofs.YtnbknihaefkllaaGreatDoor.Bt
/- What Big, Size and the document's own Size answer. -/
namespace Go.Proofs.YtnbknihaefkllaaGreatDoor.Bt
set_option linter.unusedVariables false
set_option linter.unusedSimpArgs false
open Go.RowKit Lift Ik

def bigD (d : D) : Bool := decide (300 < d.key.length) || decide (5000 < d.val.length)
def bigB (L : List D) : Bool := L.any bigD || decide (110 < L.length)
theorem any_drop {L : List D} {j : Nat} {d : D} (h : L[j]? = some d) : (L.drop j).any bigD = (bigD d || (L.drop (j + 1)).any bigD) := by
  rw [drop_cons h]; rfl
def sizeD (L : List D) : Nat := (L.map fun d => d.key.length + d.val.length + 16).sum
theorem sizeD_take {L : List D} {j : Nat} {d : D} (h : L[j]? = some d) : sizeD (L.take (j + 1)) = sizeD (L.take j) + (d.key.length + d.val.length + 16) := by
  rw [List.take_add_one, h]; simp [sizeD]
theorem big_no {L : List D} (h : bigB L = false) : L.length ≤ 110 ∧ ∀ d, d ∈ L → d.key.length ≤ 300 ∧ d.val.length ≤ 5000 := by
  simp [bigB, bigD] at h
  exact ⟨h.2, h.1⟩
theorem sizeD_le {L : List D} (h : ∀ d, d ∈ L → d.key.length ≤ 300 ∧ d.val.length ≤ 5000) : sizeD L ≤ L.length * 5316 := by
  induction L with
  | nil => simp [sizeD]
  | cons d L ih =>
    have h1 := h d (by simp)
    have h2 := ih fun e he => h e (by simp [he])
    simp only [sizeD, List.map_cons, List.sum_cons, List.length_cons] at h2 ⊢
    omega

set_option maxRecDepth 100000 in
set_option maxHeartbeats 400000 in
theorem big_any (A : Option Addr) (c B : Nat) (L : List D) (w : World) (h : Ops w B A c L) :
    Calls Tryz.prog 11 #[.slice A L.length c] w fun e w' => e = .returned (.bool (bigB L)) ∧ w = w' := by
  have HO := Lib.hid h
  have hc := h.len
  have hm := h.cap
  unfold maxLen at hm
  clear h
  go_enter Tryz.func11, Tryz.ntmps11
  go_wp2_with fail
  go_loop [3] (fun i => ∃ j : Nat, j ≤ L.length ∧ i = .int .i64 j ∧ Hid (bigB L = ((L.drop j).any bigD || decide (110 < L.length)))) (fun i => L.length + 1 - (intOf i).toNat)
  case atStart => exact ⟨0, by omega, rfl, Lib.hid rfl⟩
  case round =>
    obtain ⟨j, hj, rfl, hb⟩ := hrel
    by_cases hlt : j < L.length
    · obtain ⟨d, hd⟩ : ∃ d, L[j]? = some d := ⟨_, List.getElem?_eq_getElem hlt⟩
      obtain ⟨ad, p, hA, hz, hp, hpb, p0, p1, p2⟩ := HO.out.place hd
      subst hA
      clear hz hpb
      have HD := Lib.hid (any_drop hd)
      clear hd
      by_cases k1 : 300 < d.key.length
      · have e : Hid (bigB L = true) := Lib.hid (by rw [hb.out, HD.out]; simp [bigD, k1])
        go_wp2_with fail
        go_ret
        exact ⟨by rw [e.out]; rfl, rfl⟩
      · by_cases k2 : 5000 < d.val.length
        · have e : Hid (bigB L = true) := Lib.hid (by rw [hb.out, HD.out]; simp [bigD, k2])
          go_wp2_with fail
          go_ret
          exact ⟨by rw [e.out]; rfl, rfl⟩
        · go_wp2_with fail
          go_round
          case rel => exact ⟨j + 1, by omega, by go_num, Lib.hid (by rw [hb.out, HD.out]; simp [bigD, k1, k2])⟩
          case measure => simp [intOf]; omega
    · obtain rfl : j = L.length := by omega
      have e : Hid (bigB L = decide (110 < L.length)) := Lib.hid (by rw [hb.out]; simp)
      go_wp2_with fail
      go_ret
      exact ⟨by rw [e.out]; simp; omega, rfl⟩

end Go.Proofs.YtnbknihaefkllaaGreatDoor.Bt
/- Plain mathematics of the numbers in groups of seven bits: the encoding, the decoding, and that one undoes the other. -/
namespace Go.Proofs.YtnbknihaefkllaaGreatDoor.Vn

/-- The encoding with room for n further bytes. -/
def encN : Nat → Nat → List Nat
  | 0, x => [x]
  | n + 1, x => if x < 128 then [x] else (x % 128 + 128) :: encN n (x / 128)
def enc (x : Nat) : List Nat := encN 9 x

/-- One more group. -/
def put (i x c : Nat) : Nat := x ||| ((c % 128) <<< (7 * i))
/-- Bytes, their place, the number so far: the number, how many bytes it has, the error. -/
def dec : List Nat → Nat → Nat → Nat × Nat × Nat
  | [], _, _ => (0, 0, 4)
  | c :: l, i, x => if (i = 9 ∧ 1 < c) ∨ (0 < i ∧ c = 0) then (0, 0, 2) else if c < 128 then (put i x c, i + 1, 0) else dec l (i + 1) (put i x c)
def decAt (bs : List Nat) (at' : Nat) : Nat × Nat × Nat := dec (bs.drop at') 0 0

theorem put_add (i x c : Nat) (hx : x < 2 ^ (7 * i)) : put i x c = x + (c % 128) * 2 ^ (7 * i) := by
  unfold put
  rw [Nat.or_comm, Nat.shiftLeft_eq, Nat.mul_comm (c % 128), ← Nat.two_pow_add_eq_or_of_lt hx, Nat.add_comm]
theorem put_lt (i x c : Nat) (hx : x < 2 ^ (7 * i)) : put i x c < 2 ^ (7 * (i + 1)) := by
  rw [put_add i x c hx]
  have h1 : c % 128 < 128 := Nat.mod_lt _ (by decide)
  have h2 : 2 ^ (7 * (i + 1)) = 128 * 2 ^ (7 * i) := by rw [show 7 * (i + 1) = 7 + 7 * i by omega, Nat.pow_add]
  have h3 : (c % 128) * 2 ^ (7 * i) ≤ 127 * 2 ^ (7 * i) := Nat.mul_le_mul_right _ (by omega)
  omega

theorem dec_enc : ∀ (n x : Nat) (l : List Nat) (i y : Nat), i + n = 9 → x < 2 * 128 ^ n → y < 2 ^ (7 * i) → (0 < i → 0 < x) →
    dec (encN n x ++ l) i y = (y + x * 2 ^ (7 * i), i + (encN n x).length, 0) := by
  intro n
  induction n with
  | zero =>
    intro x l i y hi hx hy hpos
    have : ¬ ((i = 9 ∧ 1 < x) ∨ (0 < i ∧ x = 0)) := by
      have := hpos (by omega)
      omega
    simp only [encN, List.cons_append, List.nil_append, dec]
    rw [if_neg this, if_pos (by omega), put_add i y x hy, Nat.mod_eq_of_lt (by omega : x < 128)]
    rfl
  | succ n ih =>
    intro x l i y hi hx hy hpos
    by_cases h : x < 128
    · have : ¬ ((i = 9 ∧ 1 < x) ∨ (0 < i ∧ x = 0)) := by
        have := hpos
        omega
      simp only [encN, if_pos h, List.cons_append, List.nil_append, dec]
      rw [if_neg this, put_add i y x hy, Nat.mod_eq_of_lt h]
      rfl
    · have hn : ¬ ((i = 9 ∧ 1 < x % 128 + 128) ∨ (0 < i ∧ x % 128 + 128 = 0)) := by omega
      simp only [encN, if_neg h, List.cons_append, dec]
      rw [if_neg hn, if_neg (by omega)]
      have hp : put i y (x % 128 + 128) = y + x % 128 * 2 ^ (7 * i) := by
        rw [put_add i y _ hy, show (x % 128 + 128) % 128 = x % 128 by omega]
      have h2 : 2 ^ (7 * (i + 1)) = 128 * 2 ^ (7 * i) := by rw [show 7 * (i + 1) = 7 + 7 * i by omega, Nat.pow_add]
      rw [ih (x / 128) l (i + 1) _ (by omega) (by rw [Nat.pow_succ] at hx; omega) (put_lt _ _ _ hy) (by omega), hp, h2]
      have e : x % 128 * 2 ^ (7 * i) + x / 128 * (128 * 2 ^ (7 * i)) = x * 2 ^ (7 * i) := by
        rw [← Nat.mul_assoc, ← Nat.add_mul]
        congr 1
        omega
      simp only [Prod.mk.injEq, and_true]
      refine ⟨by rw [Nat.add_assoc, e], by simp; omega⟩

theorem decAt_enc (bs l : List Nat) (x : Nat) (hx : x < 18446744073709551616) : decAt (bs ++ (enc x ++ l)) bs.length = (x, (enc x).length, 0) := by
  unfold decAt
  rw [List.drop_left]
  unfold enc
  rw [dec_enc 9 x l 0 0 (by omega) (by omega) (by simp) (by omega)]
  simp

theorem dec_lt : ∀ (l : List Nat) (i y : Nat), i ≤ 9 → y < 2 ^ (7 * i) → (dec l i y).1 < 18446744073709551616 := by
  intro l
  induction l with
  | nil => intro i y _ _; simp [dec]
  | cons c l ih =>
    intro i y hi hy
    simp only [dec]
    split
    · simp
    · rename_i hn
      split
      · show put i y c < _
        rcases Nat.lt_or_eq_of_le hi with h9 | h9
        · have h := put_lt i y c hy
          have hp : 2 ^ (7 * (i + 1)) ≤ 2 ^ 63 := Nat.pow_le_pow_right (by decide) (by omega)
          have p63 : (2 : Nat) ^ 63 = 9223372036854775808 := by decide
          omega
        · subst h9
          have p63 : (2 : Nat) ^ (7 * 9) = 9223372036854775808 := by decide
          rw [put_add 9 y c hy]
          have : c % 128 ≤ 1 := Nat.le_trans (Nat.mod_le _ _) (by omega)
          rw [p63] at hy ⊢
          omega
      · rcases Nat.lt_or_eq_of_le hi with h9 | h9
        · exact ih (i + 1) _ (by omega) (put_lt i y c hy)
        · omega
theorem dec_zero : ∀ (l : List Nat) (i y : Nat), (dec l i y).2.2 ≠ 0 → (dec l i y).1 = 0 := by
  intro l
  induction l with
  | nil => intro i y _; simp [dec]
  | cons c l ih =>
    intro i y h
    simp only [dec] at h ⊢
    split
    · rfl
    · rename_i h1
      rw [if_neg h1] at h
      split
      · rename_i h2
        rw [if_pos h2] at h
        exact absurd rfl h
      · rename_i h2
        rw [if_neg h2] at h
        exact ih _ _ h
/-- Without its last byte it is no number. -/
theorem dec_cut : ∀ (n x i y : Nat), i + n = 9 → dec (encN n x).dropLast i y = (0, 0, 4) := by
  intro n
  induction n with
  | zero => intro x i y _; simp [encN, dec]
  | succ n ih =>
    intro x i y hi
    unfold encN
    split
    · simp [dec]
    · have hne : encN n (x / 128) ≠ [] := by
        intro h
        cases n with
        | zero => simp [encN] at h
        | succ n => unfold encN at h; split at h <;> simp at h
      rw [List.dropLast_cons_of_ne_nil hne]
      simp only [dec]
      rw [if_neg (by omega), if_neg (by omega)]
      exact ih (x / 128) (i + 1) _ (by omega)
theorem encN_pair (n m : Nat) : (encN n (2 * m)).length = (encN n (2 * m + 1)).length := by
  cases n with
  | zero => rfl
  | succ n =>
    unfold encN
    by_cases h : 2 * m < 128
    · rw [if_pos h, if_pos (by omega)]; rfl
    · rw [if_neg h, if_neg (by omega), show (2 * m + 1) / 128 = 2 * m / 128 by omega]; rfl
theorem enc_small (x : Nat) (h : x < 128) : enc x = [x] := by
  simp [enc, encN, h]
theorem encN_len (n x : Nat) : 1 ≤ (encN n x).length ∧ (encN n x).length ≤ n + 1 := by
  induction n generalizing x with
  | zero => simp [encN]
  | succ n ih =>
    unfold encN
    split
    · simp
    · have := ih (x / 128)
      simp only [List.length_cons]
      omega
theorem enc_len (x : Nat) : 1 ≤ (enc x).length ∧ (enc x).length ≤ 10 := encN_len 9 x
theorem encN_byte (n x : Nat) (hx : x < 2 * 128 ^ n) : ∀ c, c ∈ encN n x → c < 256 := by
  induction n generalizing x with
  | zero => intro c hc; simp [encN] at hc; omega
  | succ n ih =>
    intro c hc
    unfold encN at hc
    split at hc
    · simp at hc; omega
    · rcases List.mem_cons.1 hc with h | h
      · omega
      · exact ih (x / 128) (by rw [Nat.pow_succ] at hx; omega) c h
theorem enc_byte (x : Nat) (hx : x < 18446744073709551616) : ∀ c, c ∈ enc x → c < 256 := encN_byte 9 x (by omega)
end Go.Proofs.YtnbknihaefkllaaGreatDoor.Vn
/- Plain mathematics of the batches: the encoding, the decoding, and that one undoes the other. -/
namespace Go.Proofs.YtnbknihaefkllaaGreatDoor.Bt
set_option linter.unusedVariables false
set_option linter.unusedSimpArgs false
open Vn Ik

/-- An operation: its kind, its key, its value. -/
structure O where
  kind : Int
  key : List Nat
  val : List Nat
/-- A valid operation's form. -/
def okO (k : Int) (n m : Nat) : Bool := decide (1 ≤ n ∧ n ≤ 256 ∧ m ≤ 4096 ∧ ((k = 0 ∧ m = 0) ∨ k = 1))
def O.ok (o : O) : Bool := okO o.kind o.key.length o.val.length
/-- What Check answers. -/
def chkO (l : List O) : Nat := if l.length = 0 ∨ 100 < l.length then 3 else if l.all O.ok = true then 0 else 1
/-- May n operations be numbered from s on? -/
def fits (s n : Nat) : Bool := decide (1 ≤ s ∧ s + n ≤ 72057594037927936)
def text (t : List Nat) : List Nat := enc t.length ++ t
def encO (o : O) : List Nat := o.kind.toNat :: (text o.key ++ if o.kind = 1 then text o.val else [])
def encB (s : Nat) (l : List O) : List Nat := low s 8 ++ low l.length 4 ++ l.flatMap encO
def bytesE (s : Nat) (l : List O) : Nat := if chkO l ≠ 0 then chkO l else if fits s l.length = true then 0 else 1
def bytesB (s : Nat) (l : List O) : List Nat := if bytesE s l = 0 then encB s l else []

/-- A length from lo to hi and as many bytes: the error, the bytes, how many were read. -/
def fieldL (l : List Nat) (lo hi : Nat) : Nat × List Nat × Nat :=
  if (dec l 0 0).2.2 ≠ 0 then ((dec l 0 0).2.2, [], 0)
  else if (dec l 0 0).1 < lo ∨ hi < (dec l 0 0).1 then (2, [], 0)
  else if (l.drop (dec l 0 0).2.1).length < (dec l 0 0).1 then (4, [], 0)
  else (0, (l.drop (dec l 0 0).2.1).take (dec l 0 0).1, (dec l 0 0).2.1 + (dec l 0 0).1)
def noO : O := ⟨0, [], []⟩
/-- An operation: the error, the operation, how many bytes were read. -/
def opL : List Nat → Nat × O × Nat
  | [] => (4, noO, 0)
  | c :: r =>
    if 1 < c then (2, noO, 0)
    else if (fieldL r 1 256).1 ≠ 0 then ((fieldL r 1 256).1, noO, 0)
    else if c = 0 then (0, ⟨0, (fieldL r 1 256).2.1, []⟩, 1 + (fieldL r 1 256).2.2)
    else if (fieldL (r.drop (fieldL r 1 256).2.2) 0 4096).1 ≠ 0 then ((fieldL (r.drop (fieldL r 1 256).2.2) 0 4096).1, noO, 0)
    else (0, ⟨1, (fieldL r 1 256).2.1, (fieldL (r.drop (fieldL r 1 256).2.2) 0 4096).2.1⟩, 1 + (fieldL r 1 256).2.2 + (fieldL (r.drop (fieldL r 1 256).2.2) 0 4096).2.2)
/-- n operations from a place on, behind those that were read: the error, the operations, the place behind them. -/
def opsL : Nat → List Nat → Nat → List O → Nat × List O × Nat
  | 0, _, p, acc => (0, acc, p)
  | n + 1, bs, p, acc => if (opL (bs.drop p)).1 ≠ 0 then ((opL (bs.drop p)).1, [], 0) else opsL n bs (p + (opL (bs.drop p)).2.2) (acc ++ [(opL (bs.drop p)).2.1])
def headS (bs : List Nat) : Nat := num (bs.take 8)
def headN (bs : List Nat) : Nat := num ((bs.drop 8).take 4)
/-- What is answered of bytes: the error, the number, the operations. -/
def readB (bs : List Nat) : Nat × Nat × List O :=
  if bs.length < 12 then (4, 0, [])
  else if headN bs < 1 ∨ 100 < headN bs ∨ fits (headS bs) (headN bs) = false then (2, 0, [])
  else if (opsL (headN bs) bs 12 []).1 ≠ 0 then ((opsL (headN bs) bs 12 []).1, 0, [])
  else if (opsL (headN bs) bs 12 []).2.2 ≠ bs.length then (2, 0, [])
  else (0, headS bs, (opsL (headN bs) bs 12 []).2.1)

/-! ### Forwards -/

theorem dec_pre : ∀ (n x i y k : Nat), i + n = 9 → k < (encN n x).length → dec ((encN n x).take k) i y = (0, 0, 4) := by
  intro n
  induction n with
  | zero =>
    intro x i y k _ hk
    simp [encN] at hk
    subst hk
    rfl
  | succ n ih =>
    intro x i y k hi hk
    cases k with
    | zero => rfl
    | succ k =>
      unfold encN at hk ⊢
      split
      · rename_i h
        rw [if_pos h] at hk
        simp at hk
      · rename_i h
        rw [if_neg h, List.length_cons] at hk
        rw [List.take_succ_cons]
        simp only [dec]
        rw [if_neg (by omega), if_neg (by omega)]
        exact ih (x / 128) (i + 1) _ k (by omega) (by omega)
theorem dec_enc0 (x : Nat) (l : List Nat) (hx : x < 18446744073709551616) : dec (enc x ++ l) 0 0 = (x, (enc x).length, 0) := by
  have := dec_enc 9 x l 0 0 (by omega) (by omega) (by simp) (by omega)
  unfold enc
  rw [this]; simp
theorem field_good (t rest : List Nat) (lo hi : Nat) (h1 : lo ≤ t.length) (h2 : t.length ≤ hi) (h3 : hi < 1000000) : fieldL (text t ++ rest) lo hi = (0, t, (text t).length) := by
  have hd := dec_enc0 t.length (t ++ rest) (by omega)
  unfold fieldL text
  rw [List.append_assoc, hd]
  simp only
  rw [if_neg (by omega), if_neg (by omega), List.drop_left, if_neg (by simp), List.take_left, List.length_append]
theorem field_torn (t : List Nat) (lo hi k : Nat) (h1 : lo ≤ t.length) (h2 : t.length ≤ hi) (h3 : hi < 1000000) (hk : k < (text t).length) : (fieldL ((text t).take k) lo hi).1 = 4 := by
  unfold text at hk ⊢
  by_cases h : k < (enc t.length).length
  · rw [List.take_append_of_le_length (by omega)]
    have := dec_pre 9 t.length 0 0 k (by omega) h
    unfold fieldL
    rw [show (enc t.length).take k = (encN 9 t.length).take k from rfl, this]
    simp
  · have hd := dec_enc0 t.length (t.take (k - (enc t.length).length)) (by omega)
    rw [List.take_append, List.take_of_length_le (by omega)]
    unfold fieldL
    rw [hd]
    simp only
    rw [if_neg (by omega), if_neg (by omega), List.drop_left, if_pos]
    rw [List.length_append] at hk
    rw [List.length_take]
    omega
theorem ok_parts {o : O} (h : o.ok = true) : 1 ≤ o.key.length ∧ o.key.length ≤ 256 ∧ o.val.length ≤ 4096 ∧ ((o.kind = 0 ∧ o.val = []) ∨ o.kind = 1) := by
  simp [O.ok, okO] at h
  exact h
theorem op_good (o : O) (rest : List Nat) (h : o.ok = true) : opL (encO o ++ rest) = (0, o, (encO o).length) := by
  obtain ⟨h1, h2, h3, h4⟩ := ok_parts h
  obtain ⟨kind, key, val⟩ := o
  simp only at h1 h2 h3 h4
  rcases h4 with ⟨rfl, rfl⟩ | rfl
  · have e : encO ⟨0, key, []⟩ = 0 :: (text key ++ []) := rfl
    have hf := field_good key rest 1 256 h1 h2 (by decide)
    rw [e, List.cons_append, List.append_nil]
    simp only [opL]
    rw [hf]
    simp
    omega
  · have e : encO ⟨1, key, val⟩ = 1 :: (text key ++ text val) := rfl
    have hf := field_good key (text val ++ rest) 1 256 h1 h2 (by decide)
    have hg := field_good val rest 0 4096 (by omega) h3 (by decide)
    rw [e, List.cons_append, List.append_assoc]
    simp only [opL]
    rw [hf]
    simp only
    rw [List.drop_left, hg]
    simp
    omega
theorem op_torn (o : O) (k : Nat) (h : o.ok = true) (hk : k < (encO o).length) : (opL ((encO o).take k)).1 = 4 := by
  obtain ⟨h1, h2, h3, h4⟩ := ok_parts h
  obtain ⟨kind, key, val⟩ := o
  simp only at h1 h2 h3 h4
  cases k with
  | zero => rfl
  | succ k =>
    rcases h4 with ⟨rfl, rfl⟩ | rfl
    · have e : encO ⟨0, key, []⟩ = 0 :: (text key ++ []) := rfl
      rw [e, List.append_nil] at hk ⊢
      have hf := field_torn key 1 256 k h1 h2 (by decide) (by simpa using hk)
      rw [List.take_succ_cons]
      simp only [opL]
      rw [hf]
      simp
    · have e : encO ⟨1, key, val⟩ = 1 :: (text key ++ text val) := rfl
      rw [e] at hk ⊢
      rw [List.take_succ_cons]
      simp only [List.length_cons, List.length_append] at hk
      simp only [opL]
      by_cases hlt : k < (text key).length
      · have hf := field_torn key 1 256 k h1 h2 (by decide) hlt
        rw [List.take_append_of_le_length (by omega), hf]
        simp
      · rw [List.take_append, List.take_of_length_le (by omega)]
        have hf := field_good key ((text val).take (k - (text key).length)) 1 256 h1 h2 (by decide)
        have hg := field_torn val 0 4096 (k - (text key).length) (by omega) h3 (by decide) (by omega)
        rw [hf]
        simp only
        rw [List.drop_left, hg]
        simp
theorem encO_pos (o : O) : 0 < (encO o).length := by simp [encO]
theorem ops_good : ∀ (l : List O) (pre rest : List Nat) (acc : List O), l.all O.ok = true → opsL l.length (pre ++ (l.flatMap encO ++ rest)) pre.length acc = (0, acc ++ l, pre.length + (l.flatMap encO).length) := by
  intro l
  induction l with
  | nil => intro pre rest acc _; simp [opsL]
  | cons o l ih =>
    intro pre rest acc h
    rw [List.all_cons, Bool.and_eq_true] at h
    have hg := op_good o (l.flatMap encO ++ rest) h.1
    have hi := ih (pre ++ encO o) rest (acc ++ [o]) h.2
    rw [List.length_cons, List.flatMap_cons]
    simp only [opsL]
    rw [List.drop_left, List.append_assoc, hg]
    simp only
    rw [if_neg (by simp)]
    rw [List.append_assoc, List.length_append] at hi
    rw [hi]
    simp [Nat.add_assoc]
theorem ops_torn : ∀ (l : List O) (pre : List Nat) (acc : List O) (k : Nat), l.all O.ok = true → k < (l.flatMap encO).length → (opsL l.length (pre ++ (l.flatMap encO).take k) pre.length acc).1 = 4 := by
  intro l
  induction l with
  | nil => intro pre acc k _ hk; simp at hk
  | cons o l ih =>
    intro pre acc k h hk
    rw [List.all_cons, Bool.and_eq_true] at h
    rw [List.flatMap_cons, List.length_append] at hk
    rw [List.length_cons, List.flatMap_cons]
    simp only [opsL]
    rw [List.drop_left]
    by_cases hlt : k < (encO o).length
    · have hf := op_torn o k h.1 hlt
      rw [List.take_append_of_le_length (by omega), hf]
      simp
    · rw [List.take_append, List.take_of_length_le (by omega)]
      have hg := op_good o ((l.flatMap encO).take (k - (encO o).length)) h.1
      have hi := ih (pre ++ encO o) (acc ++ [o]) (k - (encO o).length) h.2 (by omega)
      rw [hg]
      simp only
      rw [if_neg (by simp)]
      rw [List.append_assoc, List.length_append] at hi
      exact hi
theorem fits_parts {s n : Nat} (h : fits s n = true) : 1 ≤ s ∧ s + n ≤ 72057594037927936 := by simpa [fits] using h
theorem chk_parts {l : List O} (h : chkO l = 0) : 1 ≤ l.length ∧ l.length ≤ 100 ∧ l.all O.ok = true := by
  unfold chkO at h
  split at h
  · omega
  · split at h
    · rename_i h1 h2; exact ⟨by omega, by omega, h2⟩
    · omega
theorem head_of {s n : Nat} (rest : List Nat) (hs : s < 18446744073709551616) (hn : n < 4294967296) : headS (low s 8 ++ low n 4 ++ rest) = s ∧ headN (low s 8 ++ low n 4 ++ rest) = n := by
  unfold headS headN
  rw [List.append_assoc, List.take_left' (low_length s 8), List.drop_left' (low_length s 8), List.take_left' (low_length n 4)]
  exact ⟨num_low s 8 (by omega), num_low n 4 (by omega)⟩
theorem read_good {s : Nat} {l : List O} (more : List Nat) (h : bytesE s l = 0) :
    readB (encB s l ++ more) = if more = [] then (0, s, l) else (2, 0, []) := by
  have hc : chkO l = 0 := by unfold bytesE at h; split at h; contradiction; rename_i hn; simpa using hn
  have hf : fits s l.length = true := by
    unfold bytesE at h
    rw [if_neg (by simp [hc])] at h
    split at h
    · assumption
    · omega
  obtain ⟨c1, c2, c3⟩ := chk_parts hc
  obtain ⟨f1, f2⟩ := fits_parts hf
  have e : encB s l ++ more = low s 8 ++ low l.length 4 ++ (l.flatMap encO ++ more) := by unfold encB; simp
  obtain ⟨e1, e2⟩ := head_of (s := s) (n := l.length) (l.flatMap encO ++ more) (by omega) (by omega)
  have h12 : (low s 8 ++ low l.length 4).length = 12 := by simp [low_length]
  have hg := ops_good l (low s 8 ++ low l.length 4) more [] c3
  rw [h12] at hg
  rw [e]
  unfold readB
  rw [e1, e2, hg]
  simp only [List.nil_append]
  rw [if_neg (by rw [List.length_append, h12]; omega), if_neg (by rw [hf]; intro q; rcases q with q | q | q; omega; omega; cases q), if_neg (by simp), List.length_append, h12, List.length_append]
  by_cases hm : more = []
  · subst hm; simp
  · rw [if_pos, if_neg hm]
    have : 0 < more.length := List.length_pos_iff.2 hm
    omega
theorem read_torn {s : Nat} {l : List O} (k : Nat) (h : bytesE s l = 0) (hk : k < (encB s l).length) : readB ((encB s l).take k) = (4, 0, []) := by
  have hc : chkO l = 0 := by unfold bytesE at h; split at h; contradiction; rename_i hn; simpa using hn
  have hf : fits s l.length = true := by
    unfold bytesE at h
    rw [if_neg (by simp [hc])] at h
    split at h
    · assumption
    · omega
  obtain ⟨c1, c2, c3⟩ := chk_parts hc
  obtain ⟨f1, f2⟩ := fits_parts hf
  have h12 : (low s 8 ++ low l.length 4).length = 12 := by simp [low_length]
  by_cases hlt : k < 12
  · unfold readB
    rw [if_pos (by rw [List.length_take]; omega)]
  · have e : (encB s l).take k = low s 8 ++ low l.length 4 ++ (l.flatMap encO).take (k - 12) := by
      unfold encB
      rw [List.take_append, List.take_of_length_le (by omega), h12]
    have hk2 : k - 12 < (l.flatMap encO).length := by
      have : (encB s l).length = 12 + (l.flatMap encO).length := by unfold encB; rw [List.length_append, h12]
      omega
    obtain ⟨e1, e2⟩ := head_of (s := s) (n := l.length) ((l.flatMap encO).take (k - 12)) (by omega) (by omega)
    have hg := ops_torn l (low s 8 ++ low l.length 4) [] (k - 12) c3 hk2
    rw [h12] at hg
    rw [e]
    unfold readB
    rw [e1, e2, hg]
    rw [if_neg (by rw [List.length_append, h12]; omega), if_neg (by rw [hf]; intro q; rcases q with q | q | q; omega; omega; cases q), if_pos (by decide)]

/-! ### Backwards -/

theorem dec_back : ∀ (n : Nat) (l : List Nat) (i y x k : Nat), i + n = 9 → y < 2 ^ (7 * i) → (∀ c, c ∈ l → c < 256) → dec l i y = (x, k, 0) →
    ∃ z rest, x = y + z * 2 ^ (7 * i) ∧ l = encN n z ++ rest ∧ k = i + (encN n z).length ∧ (0 < i → 0 < z) ∧ z < 2 * 128 ^ n := by
  intro n
  induction n with
  | zero =>
    intro l i y x k hi hy hb h
    cases l with
    | nil => simp [dec] at h
    | cons c l =>
      simp only [dec] at h
      split at h
      · simp at h
      · rename_i hn
        have hc : c < 128 := by omega
        rw [if_pos hc] at h
        simp only [Prod.mk.injEq] at h
        refine ⟨c, l, ?_, rfl, ?_, fun _ => by omega, by simp; omega⟩
        · rw [← h.1, put_add i y c hy, Nat.mod_eq_of_lt hc]
        · rw [← h.2.1]; rfl
  | succ n ih =>
    intro l i y x k hi hy hb h
    cases l with
    | nil => simp [dec] at h
    | cons c l =>
      have c8 := hb c (by simp)
      simp only [dec] at h
      split at h
      · simp at h
      · rename_i hn
        split at h
        · rename_i hc
          simp only [Prod.mk.injEq] at h
          refine ⟨c, l, ?_, ?_, ?_, fun _ => by omega, ?_⟩
          · rw [← h.1, put_add i y c hy, Nat.mod_eq_of_lt hc]
          · unfold encN; rw [if_pos hc]; rfl
          · unfold encN; rw [if_pos hc, ← h.2.1]; rfl
          · have : 0 < 128 ^ n := Nat.pow_pos (by decide)
            rw [Nat.pow_succ]; omega
        · rename_i hc
          obtain ⟨z, rest, e1, e2, e3, e4, e5⟩ := ih l (i + 1) _ x k (by omega) (put_lt i y c hy) (fun d hd => hb d (by simp [hd])) h
          have hz := e4 (by omega)
          have q1 : (c % 128 + 128 * z) % 128 = c % 128 := by omega
          have q2 : (c % 128 + 128 * z) / 128 = z := by omega
          have q3 : c % 128 + 128 = c := by omega
          have q4 : encN (n + 1) (c % 128 + 128 * z) = c :: encN n z := by
            conv => lhs; unfold encN
            rw [if_neg (by omega), q1, q2, q3]
          refine ⟨c % 128 + 128 * z, rest, ?_, ?_, ?_, fun _ => by omega, ?_⟩
          · rw [e1, put_add i y c hy, show 7 * (i + 1) = 7 * i + 7 by omega, Nat.pow_add, Nat.add_mul, Nat.add_assoc]
            congr 2
            rw [show (2 : Nat) ^ 7 = 128 from rfl, Nat.mul_comm (2 ^ (7 * i)) 128, ← Nat.mul_assoc, Nat.mul_comm z 128]
          · rw [q4, e2]; rfl
          · rw [q4, e3, List.length_cons]; omega
          · rw [Nat.pow_succ]; omega
theorem field_back {l : List Nat} {lo hi : Nat} (hb : ∀ c, c ∈ l → c < 256) (h : (fieldL l lo hi).1 = 0) :
    ∃ rest, l = text (fieldL l lo hi).2.1 ++ rest ∧ (fieldL l lo hi).2.2 = (text (fieldL l lo hi).2.1).length ∧ lo ≤ (fieldL l lo hi).2.1.length ∧ (fieldL l lo hi).2.1.length ≤ hi := by
  unfold fieldL at h ⊢
  split at h
  · rename_i h1
    exact absurd h h1
  · rename_i h1
    rw [if_neg h1]
    split at h
    · cases h
    · rename_i h2
      rw [if_neg h2]
      split at h
      · cases h
      · rename_i h3
        rw [if_neg h3]
        simp only
        obtain ⟨z, rest, e1, e2, e3, _, _⟩ := dec_back 9 l 0 0 (dec l 0 0).1 (dec l 0 0).2.1 (by omega) (by simp) hb (by
          have : (dec l 0 0).2.2 = 0 := by simpa using h1
          exact Prod.ext rfl (Prod.ext rfl this))
        generalize (dec l 0 0).1 = x at *
        generalize (dec l 0 0).2.1 = k at *
        simp only [Nat.zero_add, Nat.mul_zero, Nat.pow_zero, Nat.mul_one] at e1 e3
        subst e1 e3
        have e4 : l.drop (encN 9 x).length = rest := by rw [e2, List.drop_left]
        rw [e4] at h3 ⊢
        have hl : (rest.take x).length = x := by rw [List.length_take]; omega
        refine ⟨rest.drop x, ?_, ?_, ?_, ?_⟩
        · unfold text
          rw [hl, List.append_assoc, List.take_append_drop, e2]
          rfl
        · unfold text
          rw [List.length_append, hl]
          rfl
        · omega
        · omega
theorem op_back {l : List Nat} (hb : ∀ c, c ∈ l → c < 256) (h : (opL l).1 = 0) : ∃ rest, l = encO (opL l).2.1 ++ rest ∧ (opL l).2.2 = (encO (opL l).2.1).length ∧ (opL l).2.1.ok = true := by
  cases l with
  | nil => simp [opL] at h
  | cons c r =>
    have hr : ∀ d, d ∈ r → d < 256 := fun d hd => hb d (by simp [hd])
    simp only [opL] at h ⊢
    split at h
    · cases h
    · rename_i h1
      rw [if_neg h1]
      split at h
      · rename_i h2
        exact absurd h h2
      · rename_i h2
        rw [if_neg h2]
        obtain ⟨rest, e1, e2, e3, e4⟩ := field_back hr (by simpa using h2)
        generalize (fieldL r 1 256).2.1 = t at *
        generalize (fieldL r 1 256).2.2 = k at *
        split at h
        · rename_i h3
          subst h3
          rw [if_pos rfl]
          refine ⟨rest, ?_, ?_, ?_⟩
          · rw [e1]; simp [encO]
          · rw [e2]; simp [encO]; omega
          · simp [O.ok, okO]; omega
        · rename_i h3
          rw [if_neg h3]
          obtain rfl : c = 1 := by omega
          have e5 : r.drop k = rest := by rw [e2]; conv => lhs; rw [e1]; rw [List.drop_left]
          rw [e5] at h ⊢
          split at h
          · rename_i h4
            exact absurd h h4
          · rename_i h4
            rw [if_neg h4]
            have hb2 : ∀ d, d ∈ rest → d < 256 := fun d hd => hr d (by rw [e1]; simp [hd])
            obtain ⟨rest2, g1, g2, g3, g4⟩ := field_back hb2 (by simpa using h4)
            generalize (fieldL rest 0 4096).2.1 = u at *
            generalize (fieldL rest 0 4096).2.2 = m at *
            refine ⟨rest2, ?_, ?_, ?_⟩
            · rw [e1, g1]; simp [encO]
            · rw [e2, g2]; simp [encO]; omega
            · simp [O.ok, okO]; omega
theorem ops_back : ∀ (n : Nat) (bs : List Nat) (p : Nat) (acc : List O), (∀ c, c ∈ bs → c < 256) → (opsL n bs p acc).1 = 0 →
    ∃ l, (opsL n bs p acc).2.1 = acc ++ l ∧ l.length = n ∧ l.all O.ok = true ∧ bs.drop p = l.flatMap encO ++ bs.drop (opsL n bs p acc).2.2 := by
  intro n
  induction n with
  | zero => intro bs p acc _ _; exact ⟨[], by simp [opsL], rfl, rfl, by simp [opsL]⟩
  | succ n ih =>
    intro bs p acc hb h
    simp only [opsL] at h ⊢
    split at h
    · rename_i h1
      exact absurd h h1
    · rename_i h1
      rw [if_neg h1]
      obtain ⟨rest, e1, e2, e3⟩ := op_back (l := bs.drop p) (fun c hc => hb c (List.mem_of_mem_drop hc)) (by simpa using h1)
      generalize opL (bs.drop p) = q at *
      obtain ⟨l, g1, g2, g3, g4⟩ := ih bs _ _ hb h
      refine ⟨q.2.1 :: l, ?_, by simp [g2], by rw [List.all_cons, e3, g3]; rfl, ?_⟩
      · rw [g1]; simp
      · rw [List.flatMap_cons, List.append_assoc, ← g4, e2, ← List.drop_drop]
        rw [e1, List.drop_left]
theorem take_cut (bs : List Nat) (h : 12 ≤ bs.length) (hb : ∀ c, c ∈ bs → c < 256) : bs.take 12 = low (headS bs) 8 ++ low (headN bs) 4 := by
  unfold headS headN
  have e1 : (bs.take 8).length = 8 := by rw [List.length_take]; omega
  have e2 : ((bs.drop 8).take 4).length = 4 := by rw [List.length_take, List.length_drop]; omega
  have h1 := low_num (bs.take 8) fun c hc => hb c (List.mem_of_mem_take hc)
  have h2 := low_num ((bs.drop 8).take 4) fun c hc => hb c (List.mem_of_mem_drop (List.mem_of_mem_take hc))
  rw [e1] at h1
  rw [e2] at h2
  rw [h1, h2, ← List.take_add]
theorem read_back {bs : List Nat} (hb : ∀ c, c ∈ bs → c < 256) (h : (readB bs).1 = 0) : bytesE (readB bs).2.1 (readB bs).2.2 = 0 ∧ encB (readB bs).2.1 (readB bs).2.2 = bs := by
  unfold readB at h ⊢
  split at h
  · cases h
  · rename_i h1
    rw [if_neg h1]
    split at h
    · cases h
    · rename_i h2
      rw [if_neg h2]
      split at h
      · rename_i h3
        exact absurd h h3
      · rename_i h3
        rw [if_neg h3]
        split at h
        · cases h
        · rename_i h4
          rw [if_neg h4]
          simp only
          obtain ⟨l, e1, e2, e3, e4⟩ := ops_back (headN bs) bs 12 [] hb (by simpa using h3)
          have h4' : (opsL (headN bs) bs 12 []).2.2 = bs.length := by simpa using h4
          rw [h4', List.drop_length, List.append_nil] at e4
          rw [e1, List.nil_append]
          have hc : chkO l = 0 := by unfold chkO; rw [if_neg (by omega), if_pos e3]
          have hf : fits (headS bs) l.length = true := by
            rw [e2]
            cases hq : fits (headS bs) (headN bs)
            · exact absurd (.inr (.inr hq)) h2
            · rfl
          refine ⟨?_, ?_⟩
          · unfold bytesE; rw [if_neg (by simp [hc]), if_pos hf]
          · unfold encB
            rw [e2, ← take_cut bs (by omega) hb, ← e4, List.take_append_drop]
/-- In every way: the error is one of 0, 2, 4; where there is one there is nothing else. -/
theorem read_err (bs : List Nat) (h : (readB bs).1 ≠ 0) : (readB bs).2.1 = 0 ∧ (readB bs).2.2 = [] := by
  unfold readB at h ⊢
  split
  · exact ⟨rfl, rfl⟩
  · rename_i h1
    rw [if_neg h1] at h
    split
    · exact ⟨rfl, rfl⟩
    · rename_i h2
      rw [if_neg h2] at h
      split
      · exact ⟨rfl, rfl⟩
      · rename_i h3
        rw [if_neg h3] at h
        split
        · exact ⟨rfl, rfl⟩
        · rename_i h4
          rw [if_neg h4] at h
          exact absurd rfl h
end Go.Proofs.YtnbknihaefkllaaGreatDoor.Bt
/- Which operations are valid, and what Check and the document's own CheckOps answer. -/
namespace Go.Proofs.YtnbknihaefkllaaGreatDoor.Bt
set_option linter.unusedVariables false
set_option linter.unusedSimpArgs false
open Go.RowKit Lift Ik

/-- The operation itself. -/
def D.o (d : D) : O := ⟨d.kind, d.key, d.val⟩
def opsO (L : List D) : List O := L.map D.o

set_option maxHeartbeats 400000 in
theorem valid_any (ka va : Option Addr) (kc vc n m : Nat) (k : Int) (w : World) :
    Calls Tryz.prog 73 #[.agg #[.int .i64 k, .slice ka n kc, .slice va m vc]] w fun e w' => e = .returned (.bool (okO k n m)) ∧ Below w.heap.size w w' := by
  by_cases h1 : 1 ≤ n
  · have d1 : decide ((n : Int) < 1) = false := by simp; omega
    have d1x : decide ((1 : Int) ≤ (n : Int)) = true := by simp; omega
    by_cases h2 : n ≤ 256
    · have d2 : decide ((256 : Int) < (n : Int)) = false := by simp; omega
      have d2x : decide ((n : Int) ≤ 256) = true := by simp; omega
      by_cases h4 : k = 0
      · subst h4
        by_cases h6 : m = 0
        · have d6 : ((m : Int) == 0) = true := by simp; omega
          have d7 : decide ((m : Int) ≤ 4096) = true := by simp; omega
          have e : okO 0 n m = true := by simp [okO]; omega
          rw [e]
          clear e
          go_enter Tryz.func73, Tryz.ntmps73
          go_wp2_with fail
          go_ret
          exact ⟨rfl, Joins.below_alloc1 _ _⟩
        · have d6 : ((m : Int) == 0) = false := by simp; omega
          have e : okO 0 n m = false := by simp [okO]; omega
          rw [e]
          clear e
          go_enter Tryz.func73, Tryz.ntmps73
          go_wp2_with fail
          go_ret
          exact ⟨rfl, Joins.below_alloc1 _ _⟩
      · have d4 : (k == 0) = false := by simpa using h4
        by_cases h5 : k = 1
        · subst h5
          by_cases h7 : m ≤ 4096
          · have d7 : decide ((m : Int) ≤ 4096) = true := by simp; omega
            have e : okO 1 n m = true := by simp [okO]; omega
            rw [e]
            clear e
            go_enter Tryz.func73, Tryz.ntmps73
            go_wp2_with fail
            go_ret
            exact ⟨rfl, Joins.below_alloc1 _ _⟩
          · have d7 : decide ((m : Int) ≤ 4096) = false := by simp; omega
            have e : okO 1 n m = false := by simp [okO]; omega
            rw [e]
            clear e
            go_enter Tryz.func73, Tryz.ntmps73
            go_wp2_with fail
            go_ret
            exact ⟨rfl, Joins.below_alloc1 _ _⟩
        · have d5 : (k == 1) = false := by simpa using h5
          have e : okO k n m = false := by simp [okO]; omega
          rw [e]
          clear e
          go_enter Tryz.func73, Tryz.ntmps73
          go_wp2_with fail
          go_ret
          exact ⟨rfl, Joins.below_alloc1 _ _⟩
    · have d2 : decide ((256 : Int) < (n : Int)) = true := by simp; omega
      have d2x : decide ((n : Int) ≤ 256) = false := by simp; omega
      by_cases h4 : k = 0
      · subst h4
        by_cases h6 : m = 0
        · have d6 : ((m : Int) == 0) = true := by simp; omega
          have d7 : decide ((m : Int) ≤ 4096) = true := by simp; omega
          have e : okO 0 n m = false := by simp [okO]; omega
          rw [e]
          clear e
          go_enter Tryz.func73, Tryz.ntmps73
          go_wp2_with fail
          go_ret
          exact ⟨rfl, Joins.below_alloc1 _ _⟩
        · have d6 : ((m : Int) == 0) = false := by simp; omega
          have e : okO 0 n m = false := by simp [okO]; omega
          rw [e]
          clear e
          go_enter Tryz.func73, Tryz.ntmps73
          go_wp2_with fail
          go_ret
          exact ⟨rfl, Joins.below_alloc1 _ _⟩
      · have d4 : (k == 0) = false := by simpa using h4
        by_cases h5 : k = 1
        · subst h5
          by_cases h7 : m ≤ 4096
          · have d7 : decide ((m : Int) ≤ 4096) = true := by simp; omega
            have e : okO 1 n m = false := by simp [okO]; omega
            rw [e]
            clear e
            go_enter Tryz.func73, Tryz.ntmps73
            go_wp2_with fail
            go_ret
            exact ⟨rfl, Joins.below_alloc1 _ _⟩
          · have d7 : decide ((m : Int) ≤ 4096) = false := by simp; omega
            have e : okO 1 n m = false := by simp [okO]; omega
            rw [e]
            clear e
            go_enter Tryz.func73, Tryz.ntmps73
            go_wp2_with fail
            go_ret
            exact ⟨rfl, Joins.below_alloc1 _ _⟩
        · have d5 : (k == 1) = false := by simpa using h5
          have e : okO k n m = false := by simp [okO]; omega
          rw [e]
          clear e
          go_enter Tryz.func73, Tryz.ntmps73
          go_wp2_with fail
          go_ret
          exact ⟨rfl, Joins.below_alloc1 _ _⟩
  · have d1 : decide ((n : Int) < 1) = true := by simp; omega
    have d1x : decide ((1 : Int) ≤ (n : Int)) = false := by simp; omega
    by_cases h4 : k = 0
    · subst h4
      by_cases h6 : m = 0
      · have d6 : ((m : Int) == 0) = true := by simp; omega
        have d7 : decide ((m : Int) ≤ 4096) = true := by simp; omega
        have e : okO 0 n m = false := by simp [okO]; omega
        rw [e]
        clear e
        go_enter Tryz.func73, Tryz.ntmps73
        go_wp2_with fail
        go_ret
        exact ⟨rfl, Joins.below_alloc1 _ _⟩
      · have d6 : ((m : Int) == 0) = false := by simp; omega
        have e : okO 0 n m = false := by simp [okO]; omega
        rw [e]
        clear e
        go_enter Tryz.func73, Tryz.ntmps73
        go_wp2_with fail
        go_ret
        exact ⟨rfl, Joins.below_alloc1 _ _⟩
    · have d4 : (k == 0) = false := by simpa using h4
      by_cases h5 : k = 1
      · subst h5
        by_cases h7 : m ≤ 4096
        · have d7 : decide ((m : Int) ≤ 4096) = true := by simp; omega
          have e : okO 1 n m = false := by simp [okO]; omega
          rw [e]
          clear e
          go_enter Tryz.func73, Tryz.ntmps73
          go_wp2_with fail
          go_ret
          exact ⟨rfl, Joins.below_alloc1 _ _⟩
        · have d7 : decide ((m : Int) ≤ 4096) = false := by simp; omega
          have e : okO 1 n m = false := by simp [okO]; omega
          rw [e]
          clear e
          go_enter Tryz.func73, Tryz.ntmps73
          go_wp2_with fail
          go_ret
          exact ⟨rfl, Joins.below_alloc1 _ _⟩
      · have d5 : (k == 1) = false := by simpa using h5
        have e : okO k n m = false := by simp [okO]; omega
        rw [e]
        clear e
        go_enter Tryz.func73, Tryz.ntmps73
        go_wp2_with fail
        go_ret
        exact ⟨rfl, Joins.below_alloc1 _ _⟩

set_option maxHeartbeats 400000 in
theorem rvalid_any (ka va : Option Addr) (kc vc n m : Nat) (k : Int) (w : World) :
    Calls Tryz.prog 79 #[.agg #[.int .i64 k, .slice ka n kc, .slice va m vc]] w fun e w' => e = .returned (.bool (okO k n m)) ∧ Below w.heap.size w w' := by
  by_cases h1 : 1 ≤ n
  · have d1 : decide ((n : Int) < 1) = false := by simp; omega
    have d1x : decide ((1 : Int) ≤ (n : Int)) = true := by simp; omega
    by_cases h2 : n ≤ 256
    · have d2 : decide ((256 : Int) < (n : Int)) = false := by simp; omega
      have d2x : decide ((n : Int) ≤ 256) = true := by simp; omega
      by_cases h4 : k = 0
      · subst h4
        by_cases h6 : m = 0
        · have d6 : ((m : Int) == 0) = true := by simp; omega
          have d7 : decide ((m : Int) ≤ 4096) = true := by simp; omega
          have e : okO 0 n m = true := by simp [okO]; omega
          rw [e]
          clear e
          go_enter Tryz.func79, Tryz.ntmps79
          go_wp2_with fail
          go_ret
          exact ⟨rfl, Joins.below_alloc1 _ _⟩
        · have d6 : ((m : Int) == 0) = false := by simp; omega
          have e : okO 0 n m = false := by simp [okO]; omega
          rw [e]
          clear e
          go_enter Tryz.func79, Tryz.ntmps79
          go_wp2_with fail
          go_ret
          exact ⟨rfl, Joins.below_alloc1 _ _⟩
      · have d4 : (k == 0) = false := by simpa using h4
        by_cases h5 : k = 1
        · subst h5
          by_cases h7 : m ≤ 4096
          · have d7 : decide ((m : Int) ≤ 4096) = true := by simp; omega
            have e : okO 1 n m = true := by simp [okO]; omega
            rw [e]
            clear e
            go_enter Tryz.func79, Tryz.ntmps79
            go_wp2_with fail
            go_ret
            exact ⟨rfl, Joins.below_alloc1 _ _⟩
          · have d7 : decide ((m : Int) ≤ 4096) = false := by simp; omega
            have e : okO 1 n m = false := by simp [okO]; omega
            rw [e]
            clear e
            go_enter Tryz.func79, Tryz.ntmps79
            go_wp2_with fail
            go_ret
            exact ⟨rfl, Joins.below_alloc1 _ _⟩
        · have d5 : (k == 1) = false := by simpa using h5
          have e : okO k n m = false := by simp [okO]; omega
          rw [e]
          clear e
          go_enter Tryz.func79, Tryz.ntmps79
          go_wp2_with fail
          go_ret
          exact ⟨rfl, Joins.below_alloc1 _ _⟩
    · have d2 : decide ((256 : Int) < (n : Int)) = true := by simp; omega
      have d2x : decide ((n : Int) ≤ 256) = false := by simp; omega
      by_cases h4 : k = 0
      · subst h4
        by_cases h6 : m = 0
        · have d6 : ((m : Int) == 0) = true := by simp; omega
          have d7 : decide ((m : Int) ≤ 4096) = true := by simp; omega
          have e : okO 0 n m = false := by simp [okO]; omega
          rw [e]
          clear e
          go_enter Tryz.func79, Tryz.ntmps79
          go_wp2_with fail
          go_ret
          exact ⟨rfl, Joins.below_alloc1 _ _⟩
        · have d6 : ((m : Int) == 0) = false := by simp; omega
          have e : okO 0 n m = false := by simp [okO]; omega
          rw [e]
          clear e
          go_enter Tryz.func79, Tryz.ntmps79
          go_wp2_with fail
          go_ret
          exact ⟨rfl, Joins.below_alloc1 _ _⟩
      · have d4 : (k == 0) = false := by simpa using h4
        by_cases h5 : k = 1
        · subst h5
          by_cases h7 : m ≤ 4096
          · have d7 : decide ((m : Int) ≤ 4096) = true := by simp; omega
            have e : okO 1 n m = false := by simp [okO]; omega
            rw [e]
            clear e
            go_enter Tryz.func79, Tryz.ntmps79
            go_wp2_with fail
            go_ret
            exact ⟨rfl, Joins.below_alloc1 _ _⟩
          · have d7 : decide ((m : Int) ≤ 4096) = false := by simp; omega
            have e : okO 1 n m = false := by simp [okO]; omega
            rw [e]
            clear e
            go_enter Tryz.func79, Tryz.ntmps79
            go_wp2_with fail
            go_ret
            exact ⟨rfl, Joins.below_alloc1 _ _⟩
        · have d5 : (k == 1) = false := by simpa using h5
          have e : okO k n m = false := by simp [okO]; omega
          rw [e]
          clear e
          go_enter Tryz.func79, Tryz.ntmps79
          go_wp2_with fail
          go_ret
          exact ⟨rfl, Joins.below_alloc1 _ _⟩
  · have d1 : decide ((n : Int) < 1) = true := by simp; omega
    have d1x : decide ((1 : Int) ≤ (n : Int)) = false := by simp; omega
    by_cases h4 : k = 0
    · subst h4
      by_cases h6 : m = 0
      · have d6 : ((m : Int) == 0) = true := by simp; omega
        have d7 : decide ((m : Int) ≤ 4096) = true := by simp; omega
        have e : okO 0 n m = false := by simp [okO]; omega
        rw [e]
        clear e
        go_enter Tryz.func79, Tryz.ntmps79
        go_wp2_with fail
        go_ret
        exact ⟨rfl, Joins.below_alloc1 _ _⟩
      · have d6 : ((m : Int) == 0) = false := by simp; omega
        have e : okO 0 n m = false := by simp [okO]; omega
        rw [e]
        clear e
        go_enter Tryz.func79, Tryz.ntmps79
        go_wp2_with fail
        go_ret
        exact ⟨rfl, Joins.below_alloc1 _ _⟩
    · have d4 : (k == 0) = false := by simpa using h4
      by_cases h5 : k = 1
      · subst h5
        by_cases h7 : m ≤ 4096
        · have d7 : decide ((m : Int) ≤ 4096) = true := by simp; omega
          have e : okO 1 n m = false := by simp [okO]; omega
          rw [e]
          clear e
          go_enter Tryz.func79, Tryz.ntmps79
          go_wp2_with fail
          go_ret
          exact ⟨rfl, Joins.below_alloc1 _ _⟩
        · have d7 : decide ((m : Int) ≤ 4096) = false := by simp; omega
          have e : okO 1 n m = false := by simp [okO]; omega
          rw [e]
          clear e
          go_enter Tryz.func79, Tryz.ntmps79
          go_wp2_with fail
          go_ret
          exact ⟨rfl, Joins.below_alloc1 _ _⟩
      · have d5 : (k == 1) = false := by simpa using h5
        have e : okO k n m = false := by simp [okO]; omega
        rw [e]
        clear e
        go_enter Tryz.func79, Tryz.ntmps79
        go_wp2_with fail
        go_ret
        exact ⟨rfl, Joins.below_alloc1 _ _⟩

def okD (d : D) : Bool := okO d.kind d.key.length d.val.length
/-- What Check answers. -/
def chk (L : List D) : Nat := if L.length = 0 ∨ 100 < L.length then 3 else if L.all okD = true then 0 else 1
theorem chk_o (L : List D) : chk L = chkO (opsO L) := by
  unfold chk chkO opsO
  rw [List.length_map, List.all_map]
  rfl
theorem all_drop {L : List D} {j : Nat} {d : D} (h : L[j]? = some d) : (L.drop j).all okD = (okD d && (L.drop (j + 1)).all okD) := by
  rw [drop_cons h]; rfl

set_option maxRecDepth 100000 in
set_option maxHeartbeats 400000 in
theorem check_any (A : Option Addr) (c : Nat) (L : List D) (w : World) (h : Ops w w.heap.size A c L) :
    Calls Tryz.prog 49 #[.slice A L.length c] w fun e w' => e = .returned (.int .i64 (chk L : Nat)) ∧ Below w.heap.size w w' := by
  have HO := Lib.hid h
  have hc := h.len
  have hm := h.cap
  unfold maxLen at hm
  clear h
  by_cases n0 : L.length = 0
  · have e : chk L = 3 := by unfold chk; rw [if_pos (.inl n0)]
    rw [e, n0]
    clear e
    go_enter Tryz.func49, Tryz.ntmps49
    go_wp2_with fail
    go_ret
    exact ⟨rfl, Below.refl _ _⟩
  · have dn0 : ((L.length : Int) == 0) = false := by rw [beq_eq_false_iff_ne]; omega
    have dn1 : decide ((L.length : Int) < 1) = false := by simp; omega
    by_cases n1 : 100 < L.length
    · have dn2 : decide ((100 : Int) < (L.length : Int)) = true := by simp; omega
      have e : chk L = 3 := by unfold chk; rw [if_pos (.inr n1)]
      rw [e]
      clear e
      go_enter Tryz.func49, Tryz.ntmps49
      go_wp2_with fail
      go_ret
      exact ⟨rfl, Below.refl _ _⟩
    · have dn2 : decide ((100 : Int) < (L.length : Int)) = false := by simp; omega
      have e0 : chk L = if L.all okD = true then 0 else 1 := by unfold chk; rw [if_neg (by omega)]
      have E0 := Lib.hid e0
      clear e0
      go_enter Tryz.func49, Tryz.ntmps49
      go_wp2_with fail
      go_loopw [15] (fun i wr => ∃ j : Nat, j ≤ L.length ∧ i = .int .i64 j ∧ Hid (L.all okD = (L.drop j).all okD) ∧ Hid (Below w.heap.size w wr)) (fun i _ => L.length + 1 - (intOf i).toNat)
      case atStart => exact ⟨0, by omega, rfl, Lib.hid rfl, Lib.hid (Below.refl _ _)⟩
      case round =>
        obtain ⟨j, hj, rfl, hy, hb⟩ := hrel
        by_cases hlt : j < L.length
        · obtain ⟨d, hd⟩ : ∃ d, L[j]? = some d := ⟨_, List.getElem?_eq_getElem hlt⟩
          obtain ⟨ad, p, hA, hz, hp, hpb, p0, p1, p2⟩ := (HO.out.below hb.out).place hd
          subst hA
          clear hz hpb
          have hld := load_op p0 p1 p2
          have HD := Lib.hid (all_drop hd)
          have HV := Lib.hid (valid_any d.ka d.va d.kc d.vc d.key.length d.val.length d.kind)
          clear hd
          go_wp2_with fail
          refine (HV.out _).mono ?_; rintro e W1 ⟨rfl, hb1⟩
          have HB1 := Lib.hid ((hb.out.alloc hb.out.size _).trans (hb1.mono (by simp; have := hb.out.size; omega)))
          clear hb1
          cases hv : okO d.kind d.key.length d.val.length
          · have E1 := Lib.hid (show L.all okD = false by rw [hy.out, HD.out, okD, hv]; rfl)
            clear hv
            go_wp2_with fail
            go_ret
            exact ⟨by rw [E0.out, E1.out]; rfl, HB1.out⟩
          · have E1 := Lib.hid (show L.all okD = (L.drop (j + 1)).all okD by rw [hy.out, HD.out, okD, hv]; rfl)
            clear hv
            go_wp2_with fail
            go_roundw
            case rel => exact ⟨j + 1, by omega, by go_num, E1, HB1⟩
            case measure => simp [intOf]; omega
        · obtain rfl : j = L.length := by omega
          have E1 := Lib.hid (show L.all okD = true by rw [hy.out]; simp)
          go_wp2_with fail
          go_ret
          exact ⟨by rw [E0.out, E1.out]; rfl, hb.out⟩

set_option maxRecDepth 100000 in
set_option maxHeartbeats 400000 in
theorem rcheck_any (A : Option Addr) (c : Nat) (L : List D) (w : World) (h : Ops w w.heap.size A c L) :
    Calls Tryz.prog 57 #[.slice A L.length c] w fun e w' => e = .returned (.int .i64 (chk L : Nat)) ∧ Below w.heap.size w w' := by
  have HO := Lib.hid h
  have hc := h.len
  have hm := h.cap
  unfold maxLen at hm
  clear h
  by_cases n0 : L.length = 0
  · have e : chk L = 3 := by unfold chk; rw [if_pos (.inl n0)]
    rw [e, n0]
    clear e
    go_enter Tryz.func57, Tryz.ntmps57
    go_wp2_with fail
    go_ret
    exact ⟨rfl, Below.refl _ _⟩
  · have dn0 : ((L.length : Int) == 0) = false := by rw [beq_eq_false_iff_ne]; omega
    have dn1 : decide ((L.length : Int) < 1) = false := by simp; omega
    by_cases n1 : 100 < L.length
    · have dn2 : decide ((100 : Int) < (L.length : Int)) = true := by simp; omega
      have e : chk L = 3 := by unfold chk; rw [if_pos (.inr n1)]
      rw [e]
      clear e
      go_enter Tryz.func57, Tryz.ntmps57
      go_wp2_with fail
      go_ret
      exact ⟨rfl, Below.refl _ _⟩
    · have dn2 : decide ((100 : Int) < (L.length : Int)) = false := by simp; omega
      have e0 : chk L = if L.all okD = true then 0 else 1 := by unfold chk; rw [if_neg (by omega)]
      have E0 := Lib.hid e0
      clear e0
      go_enter Tryz.func57, Tryz.ntmps57
      go_wp2_with fail
      go_loopw [3] (fun i wr => ∃ j : Nat, j ≤ L.length ∧ i = .int .i64 j ∧ Hid (L.all okD = (L.drop j).all okD) ∧ Hid (Below w.heap.size w wr)) (fun i _ => L.length + 1 - (intOf i).toNat)
      case atStart => exact ⟨0, by omega, rfl, Lib.hid rfl, Lib.hid (Below.refl _ _)⟩
      case round =>
        obtain ⟨j, hj, rfl, hy, hb⟩ := hrel
        by_cases hlt : j < L.length
        · obtain ⟨d, hd⟩ : ∃ d, L[j]? = some d := ⟨_, List.getElem?_eq_getElem hlt⟩
          obtain ⟨ad, p, hA, hz, hp, hpb, p0, p1, p2⟩ := (HO.out.below hb.out).place hd
          subst hA
          clear hz hpb
          have hld := load_op p0 p1 p2
          have HD := Lib.hid (all_drop hd)
          have HV := Lib.hid (rvalid_any d.ka d.va d.kc d.vc d.key.length d.val.length d.kind)
          clear hd
          go_wp2_with fail
          refine (HV.out _).mono ?_; rintro e W1 ⟨rfl, hb1⟩
          have HB1 := Lib.hid (hb.out.trans (hb1.mono hb.out.size))
          clear hb1
          cases hv : okO d.kind d.key.length d.val.length
          · have E1 := Lib.hid (show L.all okD = false by rw [hy.out, HD.out, okD, hv]; rfl)
            clear hv
            go_wp2_with fail
            go_ret
            exact ⟨by rw [E0.out, E1.out]; rfl, HB1.out⟩
          · have E1 := Lib.hid (show L.all okD = (L.drop (j + 1)).all okD by rw [hy.out, HD.out, okD, hv]; rfl)
            clear hv
            go_wp2_with fail
            go_roundw
            case rel => exact ⟨j + 1, by omega, by go_num, E1, HB1⟩
            case measure => simp [intOf]; omega
        · obtain rfl : j = L.length := by omega
          have E1 := Lib.hid (show L.all okD = true by rw [hy.out]; simp)
          go_wp2_with fail
          go_ret
          exact ⟨by rw [E0.out, E1.out]; rfl, hb.out⟩
end Go.Proofs.YtnbknihaefkllaaGreatDoor.Bt
/- Two batches of the same content: SameOps and SameBatch answer true. -/
namespace Go.Proofs.YtnbknihaefkllaaGreatDoor.Bt
set_option linter.unusedVariables false
set_option linter.unusedSimpArgs false
open Go.RowKit Lift Ik

theorem run_str {w : World} {B c : Nat} {A : Option Addr} {bs : List Nat} (hl : Lies w B A (bs.map vb)) : Sem.run Tryz.prog (convert 24 9 (.slice A bs.length c)) w = .ok (.string (str bs)) w :=
  run_string_lies (P := Tryz.prog) (c := c) _ _ 5 Tryz.underlying24 Tryz.underlying5 Tryz.underlying9 hl
theorem same_at {L M : List D} (he : opsO L = opsO M) {j : Nat} {d : D} (hd : L[j]? = some d) : ∃ e, M[j]? = some e ∧ e.kind = d.kind ∧ e.key = d.key ∧ e.val = d.val := by
  have h1 : (opsO L)[j]? = some d.o := by unfold opsO; rw [List.getElem?_map, hd]; rfl
  rw [he] at h1
  unfold opsO at h1
  rw [List.getElem?_map] at h1
  obtain ⟨e, h2, h3⟩ := Option.map_eq_some_iff.1 h1
  unfold D.o at h3
  injection h3 with k1 k2 k3
  exact ⟨e, h2, k1, k2, k3⟩

set_option maxRecDepth 100000 in
set_option maxHeartbeats 800000 in
theorem same_ops (A1 A2 : Option Addr) (c1 c2 : Nat) (L M : List D) (w : World) (h1 : Ops w w.heap.size A1 c1 L) (h2 : Ops w w.heap.size A2 c2 M) (he : opsO L = opsO M) :
    Calls Tryz.prog 70 #[.slice A1 L.length c1, .slice A2 M.length c2] w fun e w' => e = .returned (.bool true) ∧ Below w.heap.size w w' := by
  have hlen : M.length = L.length := by have := congrArg List.length he; simpa [opsO] using this.symm
  have hc1 := h1.len
  have hc2 := h2.len
  have hm1 := h1.cap
  have hm2 := h2.cap
  unfold maxLen at hm1 hm2
  rw [hlen] at hc2 ⊢
  have H1 := Lib.hid h1
  have H2 := Lib.hid h2
  have HE := Lib.hid he
  clear h1 h2 he hlen
  go_enter Tryz.func70, Tryz.ntmps70
  go_wp2_with fail
  go_loopw [5] (fun i wr => ∃ j : Nat, j ≤ L.length ∧ i = .int .i64 j ∧ Hid (Below w.heap.size w wr)) (fun i _ => L.length + 1 - (intOf i).toNat)
  case atStart => exact ⟨0, by omega, rfl, Lib.hid (Below.refl _ _)⟩
  case round =>
    obtain ⟨j, hj, rfl, hb⟩ := hrel
    by_cases hlt : j < L.length
    · obtain ⟨d, hd⟩ : ∃ d, L[j]? = some d := ⟨_, List.getElem?_eq_getElem hlt⟩
      obtain ⟨d2, hd2, k1, k2, k3⟩ := same_at HE.out hd
      have o1 := H1.out.below hb.out
      have o2 := H2.out.below hb.out
      obtain ⟨ad1, p, hA1, hz1, hp1, hpb1, p0, p1, p2⟩ := o1.place hd
      obtain ⟨ad2, q, hA2, hz2, hp2, hpb2, q0, q1, q2⟩ := o2.place hd2
      have x1 := o1.ok d (List.mem_of_getElem? hd)
      have x2 := o2.ok d2 (List.mem_of_getElem? hd2)
      have s1 := fun k => run_str (c := d.kc) ((x1.kl.lies (B := w.heap.size) fun _ h => h).below (Joins.below_draws w.heap.size wr k))
      have s2 := fun k => run_str (c := d2.kc) ((x2.kl.lies (B := w.heap.size) fun _ h => h).below (Joins.below_draws w.heap.size wr k))
      have s3 := fun k => run_str (c := d.vc) ((x1.vl.lies (B := w.heap.size) fun _ h => h).below (Joins.below_draws w.heap.size wr k))
      have s4 := fun k => run_str (c := d2.vc) ((x2.vl.lies (B := w.heap.size) fun _ h => h).below (Joins.below_draws w.heap.size wr k))
      rw [k1] at q0
      rw [k2] at q1 s2
      rw [k3] at q2 s4
      subst hA1 hA2
      clear hz1 hz2 hpb1 hpb2 hd hd2 k1 k2 k3 o1 o2 x1 x2
      have n0 : (d.kind != d.kind) = false := by simp
      have n1 : ((str d.key).toList != (str d.key).toList) = false := by simp
      have n2 : ((str d.val).toList != (str d.val).toList) = false := by simp
      go_wp2_with fail
      go_quiet (fail)
      go_wp2_with fail
      go_roundw
      case rel => exact ⟨j + 1, by omega, by go_num, Lib.hid (hb.out.trans (Joins.below_draws _ _ _))⟩
      case measure => simp [intOf]; omega
    · obtain rfl : j = L.length := by omega
      go_wp2_with fail
      go_ret
      exact ⟨rfl, hb.out⟩

set_option maxRecDepth 100000 in
theorem same_batch (s : Nat) (A1 A2 : Option Addr) (c1 c2 : Nat) (L M : List D) (w : World) (h1 : Ops w w.heap.size A1 c1 L) (h2 : Ops w w.heap.size A2 c2 M) (he : opsO L = opsO M) :
    Calls Tryz.prog 45 #[.agg #[.int .u64 (s : Int), .slice A1 L.length c1], .agg #[.int .u64 (s : Int), .slice A2 M.length c2]] w fun e w' => e = .returned (.bool true) ∧ Below w.heap.size w w' := by
  have hb := Joins.below_alloc2 w (.cells #[.int .u64 (s : Int), .slice A1 L.length c1] 38) (.cells #[.int .u64 (s : Int), .slice A2 M.length c2] 38)
  have hs := same_ops A1 A2 c1 c2 L M _ (h1.next hb) (h2.next hb) he
  have HB := Lib.hid hb
  have HS := Lib.hid hs
  clear h1 h2 he hb hs
  go_enter Tryz.func45, Tryz.ntmps45
  go_wp2_with fail
  refine HS.out.mono ?_; rintro e W1 ⟨rfl, hb1⟩
  have HB1 := Lib.hid (HB.out.trans (hb1.mono HB.out.size))
  clear hb1 HS
  go_wp2_with fail
  go_ret
  exact ⟨rfl, HB1.out⟩
end Go.Proofs.YtnbknihaefkllaaGreatDoor.Bt
/- How the walk spells one more group of seven bits, and what number it is. -/
namespace Go.Proofs.YtnbknihaefkllaaGreatDoor.Vn
open Go

theorem u8_low (c : Nat) (h : c < 256) : bits .andNot .u8 (c : Int) 128 = ((c % 128 : Nat) : Int) := by
  have e := u8_andNot_nat c 128 h (by decide)
  rw [show ((128 : Nat) : Int) = 128 from rfl] at e
  rw [e]
  have : c &&& (255 - 128) = c % 128 := Nat.and_two_pow_sub_one_eq_mod c 7
  rw [this]
theorem u8_low' (c : Nat) (h : c < 256) : bits .and .u8 (c : Int) 127 = ((c % 128 : Nat) : Int) := by
  have e := u8_and_nat c 127 h (by decide)
  rw [show ((127 : Nat) : Int) = 127 from rfl] at e
  rw [e]
  have : c &&& 127 = c % 128 := Nat.and_two_pow_sub_one_eq_mod c 7
  rw [this]
theorem u64_in (n : Nat) (h : n < 18446744073709551616) : IntKind.u64.wrap (n : Int) = (n : Int) := by
  simp only [IntKind.wrap_u64]; omega
theorem pow_cast (k : Nat) : (2 : Int) ^ (7 * k) = ((2 ^ (7 * k) : Nat) : Int) := by
  rw [Int.natCast_pow]; rfl

/-- The group c, put at place k of y. -/
theorem group (k y m : Nat) (hk : 7 * k ≤ 63) (hy : y < 2 ^ (7 * k)) (hm : m * 2 ^ (7 * k) < 18446744073709551616) (h128 : m < 128) :
    bits .or .u64 (y : Int) (IntKind.u64.wrap (IntKind.u64.wrap (m : Int) * ((2 ^ (7 * k) : Nat) : Int))) = ((y ||| (m <<< (7 * k)) : Nat) : Int) := by
  have hp : 2 ^ (7 * k) ≤ 2 ^ 63 := Nat.pow_le_pow_right (by decide) hk
  have p63 : (2 : Nat) ^ 63 = 9223372036854775808 := by decide
  rw [u64_in m (by omega), ← Int.natCast_mul, u64_in _ hm, u64_or_nat _ _ (by omega) hm, Nat.shiftLeft_eq]

theorem group_low (k y c : Nat) (hk : k < 9) (hy : y < 2 ^ (7 * k)) (hc : c < 256) :
    bits .or .u64 (y : Int) (IntKind.u64.wrap (IntKind.u64.wrap (bits .andNot .u8 (c : Int) 128) * 2 ^ (7 * k))) = ((put k y c : Nat) : Int) := by
  have hp : 2 ^ (7 * k) ≤ 2 ^ 56 := Nat.pow_le_pow_right (by decide) (by omega)
  have p56 : (2 : Nat) ^ 56 = 72057594037927936 := by decide
  have hmod : c % 128 < 128 := Nat.mod_lt _ (by decide)
  have hm : c % 128 * 2 ^ (7 * k) ≤ 127 * 2 ^ 56 := Nat.mul_le_mul (by omega) hp
  rw [u8_low c hc, pow_cast, group k y _ (by omega) hy (by omega) hmod]
  rfl
theorem group_low' (k y c : Nat) (hk : k < 9) (hy : y < 2 ^ (7 * k)) (hc : c < 256) :
    bits .or .u64 (y : Int) (IntKind.u64.wrap (IntKind.u64.wrap (bits .and .u8 (c : Int) 127) * 2 ^ (7 * k))) = ((put k y c : Nat) : Int) := by
  rw [u8_low' c hc, ← u8_low c hc]
  exact group_low k y c hk hy hc
theorem group_top (y c : Nat) (hy : y < 2 ^ (7 * 9)) (hc : c ≤ 1) :
    bits .or .u64 (y : Int) (IntKind.u64.wrap (IntKind.u64.wrap (bits .andNot .u8 (c : Int) 128) * 9223372036854775808)) = ((put 9 y c : Nat) : Int) := by
  have p63 : (2 : Nat) ^ (7 * 9) = 9223372036854775808 := by decide
  have hmod : c % 128 ≤ 1 := Nat.le_trans (Nat.mod_le _ _) hc
  have h := group 9 y (c % 128) (by omega) hy (by rw [p63]; omega) (by omega)
  rw [p63] at h
  rw [u8_low c (by omega)]
  exact h
theorem group_top' (y c : Nat) (hy : y < 2 ^ (7 * 9)) (hc : c ≤ 1) :
    bits .or .u64 (y : Int) (IntKind.u64.wrap (IntKind.u64.wrap (bits .and .u8 (c : Int) 127) * 9223372036854775808)) = ((put 9 y c : Nat) : Int) := by
  rw [u8_low' c (by omega), ← u8_low c (by omega)]
  exact group_top y c hy hc
theorem group_last (k y c : Nat) (h9 : k = 9) (hy : y < 2 ^ (7 * k)) (hc : c ≤ 1) :
    bits .or .u64 (y : Int) (IntKind.u64.wrap (IntKind.u64.wrap (bits .andNot .u8 (c : Int) 128) * 2 ^ (7 * k))) = ((put k y c : Nat) : Int) := by
  subst h9
  rw [pow_cast]
  exact group_top y c hy hc
theorem group_last' (k y c : Nat) (h9 : k = 9) (hy : y < 2 ^ (7 * k)) (hc : c ≤ 1) :
    bits .or .u64 (y : Int) (IntKind.u64.wrap (IntKind.u64.wrap (bits .and .u8 (c : Int) 127) * 2 ^ (7 * k))) = ((put k y c : Nat) : Int) := by
  subst h9
  rw [pow_cast]
  exact group_top' y c hy hc
end Go.Proofs.YtnbknihaefkllaaGreatDoor.Vn
/- What Get of package varint, and the document's own GetVar, answer: one contract each, for all bytes and all places. -/
namespace Go.Proofs.YtnbknihaefkllaaGreatDoor.Vt
set_option linter.unusedVariables false
open Go.RowKit Lift Vn
/-- A byte. -/
abbrev vb (c : Nat) : Value := .int .u8 (c : Int)
theorem bytes_at {w : World} {ad : Addr} {bs : List Nat} (h : ∀ (j : Nat) (u : Value), (bs.map vb)[j]? = some u → w.cell? (ad.add j) = some u) :
    ∀ (j c : Nat), bs[j]? = some c → w.cell? (ad.add j) = some (.int .u8 (c : Int)) :=
  fun j c hj => h j _ (by rw [List.getElem?_map, hj]; rfl)
/-- What Get and GetVar answer. -/
def ans (at' : Nat) (r : Nat × Nat × Nat) : Ending := .returned (.tuple #[.int .u64 (r.1 : Int), .int .i64 ((if r.2.2 = 0 then at' + r.2.1 else 0 : Nat) : Int), .int .i64 (r.2.2 : Int)])

theorem ans_ok {at' k : Nat} {n : Int} {m : Nat} {r : Nat × Nat × Nat} (h : r = (m, k + 1, 0)) (hn : n = (m : Int)) :
    Ending.returned (.tuple #[.int .u64 n, .int .i64 ((at' : Int) + (k : Int) + 1), .int .i64 0]) = ans at' r := by
  subst h; subst hn
  simp only [ans, if_true]
  rfl
theorem ans_bad {at' : Nat} {r : Nat × Nat × Nat} (h : r = (0, 0, 2)) :
    Ending.returned (.tuple #[.int .u64 0, .int .i64 0, .int .i64 2]) = ans at' r := by
  subst h; simp [ans]
theorem ans_short {at' : Nat} {r : Nat × Nat × Nat} (h : r = (0, 0, 4)) :
    Ending.returned (.tuple #[.int .u64 0, .int .i64 0, .int .i64 4]) = ans at' r := by
  subst h; simp [ans]

theorem dec_ok {c k y : Nat} {l : List Nat} (h : ¬ ((k = 9 ∧ 1 < c) ∨ (0 < k ∧ c = 0))) (hc : c < 128) : dec (c :: l) k y = (put k y c, k + 1, 0) := by
  simp only [dec]; rw [if_neg h, if_pos hc]
theorem dec_bad {c k y : Nat} {l : List Nat} (h : (k = 9 ∧ 1 < c) ∨ (0 < k ∧ c = 0)) : dec (c :: l) k y = (0, 0, 2) := by
  simp only [dec]; rw [if_pos h]
theorem dec_go {c k y : Nat} {l : List Nat} (h : ¬ ((k = 9 ∧ 1 < c) ∨ (0 < k ∧ c = 0))) (hc : 128 ≤ c) : dec (c :: l) k y = dec l (k + 1) (put k y c) := by
  simp only [dec]; rw [if_neg h, if_neg (by omega)]

set_option maxRecDepth 100000 in
set_option maxHeartbeats 400000 in
theorem get_any (ad : Addr) (cap at' : Nat) (bs : List Nat) (w : World) (hat : at' < bs.length) (hcap : bs.length ≤ cap) (hm : bs.length ≤ maxLen) (hb : ∀ (j c : Nat), bs[j]? = some c → c < 256)
    (hc : ∀ (j c : Nat), bs[j]? = some c → w.cell? (ad.add j) = some (.int .u8 (c : Int))) :
    Calls Tryz.prog 101 #[.slice (some ad) bs.length cap, .int .i64 at'] w fun e w' => e = ans at' (decAt bs at') ∧ w = w' := by
  unfold maxLen at hm
  have hb' := Lib.hid hb
  have hc' := Lib.hid hc
  clear hb hc
  have hne : ¬ cap = at' := by omega
  have d1 : decide ((at' : Int) < 0) = false := by simp
  have d2 : decide (bs.length < at') = false := by simp; omega
  go_enter Tryz.func101, Tryz.ntmps101
  go_wp2_with fail
  go_loop [7, 24] (fun x i => ∃ k y : Nat, k ≤ 9 ∧ k ≤ bs.length - at' ∧ Hid (y < 2 ^ (7 * k)) ∧ i = .int .i64 k ∧ x = .int .u64 y ∧ Hid (decAt bs at' = dec (bs.drop (at' + k)) k y)) (fun _ i => 100 - (intOf i).toNat)
  case atStart => exact ⟨0, 0, by omega, by omega, Lib.hid (by simp), rfl, rfl, rfl⟩
  case round =>
    obtain ⟨k, y, hk9, hk, hy, rfl, rfl, hd⟩ := hrel
    by_cases hlt : k < bs.length - at'
    · obtain ⟨c, hcc⟩ : ∃ c : Nat, bs[at' + k]? = some c := ⟨_, List.getElem?_eq_getElem (by omega)⟩
      have c256 := hb'.out _ _ hcc
      have hcell : w.cell? ((ad.add at').add k) = some (.int .u8 c) := by rw [add_add]; exact hc'.out _ _ hcc
      have hstep : Hid (bs.drop (at' + k) = c :: bs.drop (at' + (k + 1))) := by
        apply Lib.hid
        rw [List.drop_eq_getElem?_toList_append]
        rw [hcc]; rfl
      clear hcc hb' hc' hat hcap d1 d2
      rcases Nat.lt_or_eq_of_le hk9 with k9 | k9
      · have t9 : ((k : Int) == 9) = false := by rw [beq_eq_false_iff_ne]; omega
        clear hk9
        by_cases k0 : 0 < k
        · by_cases c0 : c = 0
          · subst c0
            go_wp2_with fail
            go_ret3
            exact ⟨ans_bad (by rw [hd.out, hstep.out]; exact dec_bad (.inr ⟨k0, rfl⟩)), rfl⟩
          · have t0 : ((c : Int) == 0) = false := by rw [beq_eq_false_iff_ne]; omega
            by_cases c8 : c < 128
            · go_wp2_with fail
              go_ret3
              exact ⟨ans_ok (by rw [hd.out, hstep.out]; exact dec_ok (by omega) c8) (group_low k y c k9 hy.out c256), rfl⟩
            · go_wp2_with fail
              go_round
              case rel => exact ⟨k + 1, put k y c, by omega, by omega, Lib.hid (put_lt _ _ _ hy.out), by go_num, by rw [group_low k y c k9 hy.out c256], Lib.hid (by rw [hd.out, hstep.out]; exact dec_go (by omega) (by omega))⟩
              case measure => simp [intOf]; omega
        · by_cases c8 : c < 128
          · go_wp2_with fail
            go_ret3
            exact ⟨ans_ok (by rw [hd.out, hstep.out]; exact dec_ok (by omega) c8) (group_low k y c k9 hy.out c256), rfl⟩
          · go_wp2_with fail
            go_round
            case rel => exact ⟨k + 1, put k y c, by omega, by omega, Lib.hid (put_lt _ _ _ hy.out), by go_num, by rw [group_low k y c k9 hy.out c256], Lib.hid (by rw [hd.out, hstep.out]; exact dec_go (by omega) (by omega))⟩
            case measure => simp [intOf]; omega
      · have t9 : ((k : Int) == 9) = true := by rw [beq_iff_eq]; omega
        have k0 : 0 < k := by omega
        have K9 := Lib.hid k9
        clear k9
        by_cases c1 : 1 < c
        · have t1 : decide (1 < (c : Int)) = true := by simp; omega
          go_wp2_with fail
          go_ret3
          exact ⟨ans_bad (by rw [hd.out, hstep.out]; exact dec_bad (.inl ⟨K9.out, c1⟩)), rfl⟩
        · have t1 : decide (1 < (c : Int)) = false := by simp; omega
          by_cases c0 : c = 0
          · have t0 : ((c : Int) == 0) = true := by rw [beq_iff_eq]; omega
            have C0 := Lib.hid c0
            clear c0
            go_wp2_with fail
            go_ret3
            exact ⟨ans_bad (by rw [hd.out, hstep.out]; exact dec_bad (.inr ⟨k0, C0.out⟩)), rfl⟩
          · have t0 : ((c : Int) == 0) = false := by rw [beq_eq_false_iff_ne]; omega
            have c8 : c < 128 := by omega
            go_wp2_with fail
            go_ret3
            exact ⟨ans_ok (by rw [hd.out, hstep.out]; exact dec_ok (by omega) c8) (group_last k y c K9.out hy.out (by omega)), rfl⟩
    · have hz : at' + k = bs.length := by omega
      have Hz := Lib.hid hz
      clear hz hb' hc'
      go_wp2_with fail
      go_ret3
      exact ⟨ans_short (by rw [hd.out, Hz.out]; simp [dec]), rfl⟩

theorem get_end (A : Option Addr) (cap : Nat) (bs : List Nat) (w : World) (hcap : bs.length ≤ cap) (hm : bs.length ≤ maxLen) :
    Calls Tryz.prog 101 #[.slice A bs.length cap, .int .i64 bs.length] w fun e w' => e = ans bs.length (decAt bs bs.length) ∧ w = w' := by
  unfold maxLen at hm
  have hd : Hid (decAt bs bs.length = (0, 0, 4)) := Lib.hid (by simp [decAt, dec])
  have d1 : decide ((bs.length : Int) < 0) = false := by simp
  have hs : ∀ W : World, ∃ A' : Option Addr, Sem.run Tryz.prog (Instr.slice 24 (.slice A bs.length cap) (some (.int .i64 bs.length)) none none) W = .ok (.slice A' 0 (cap - bs.length)) W := fun W => by
    by_cases hc : cap = bs.length
    · exact ⟨A, by go_simp⟩
    · exact ⟨Option.map (fun x => x.add bs.length) A, by go_simp⟩
  obtain ⟨A', hs'⟩ := hs w
  go_enter Tryz.func101, Tryz.ntmps101
  go_wp2_with fail
  refine wp_loop_rounds 1 ?_
  rw [rounds_succ]
  go_wp2_with fail
  go_ret3
  exact ⟨ans_short hd.out, rfl⟩

theorem get_off (A : Option Addr) (cap : Nat) (n : Nat) (at' : Int) (w : World) (h : at' < 0 ∨ (n : Int) < at') :
    Calls Tryz.prog 101 #[.slice A n cap, .int .i64 at'] w fun e w' => e = .returned (.tuple #[.int .u64 0, .int .i64 0, .int .i64 1]) ∧ w = w' := by
  by_cases h0 : at' < 0
  · clear h
    go_enter Tryz.func101, Tryz.ntmps101
    go_wp2_with fail
    go_ret3
    exact ⟨rfl, rfl⟩
  · have h1 : (n : Int) < at' := by omega
    have h2 : decide (at' < 0) = false := by simp; omega
    clear h h0
    go_enter Tryz.func101, Tryz.ntmps101
    go_wp2_with fail
    go_ret3
    exact ⟨rfl, rfl⟩

/-- What is answered of all bytes, at all places. -/
def res (bs : List Nat) (at' : Int) : Nat × Nat × Nat :=
  if at' < 0 ∨ (bs.length : Int) < at' then (0, 0, 1) else ((decAt bs at'.toNat).1, if (decAt bs at'.toNat).2.2 = 0 then at'.toNat + (decAt bs at'.toNat).2.1 else 0, (decAt bs at'.toNat).2.2)
def told (r : Nat × Nat × Nat) : Ending := .returned (.tuple #[.int .u64 (r.1 : Int), .int .i64 (r.2.1 : Int), .int .i64 (r.2.2 : Int)])

theorem get_calls (A : Option Addr) (cap B : Nat) (bs : List Nat) (at' : Int) (w : World) (hl : Lies w B A (bs.map vb)) (hcap : bs.length ≤ cap) (hm : bs.length ≤ maxLen) (hb : ∀ c, c ∈ bs → c < 256) :
    Calls Tryz.prog 101 #[.slice A bs.length cap, .int .i64 at'] w fun e w' => e = told (res bs at') ∧ w = w' := by
  by_cases h : at' < 0 ∨ (bs.length : Int) < at'
  · refine (get_off A cap _ at' w h).mono ?_
    rintro e w' ⟨rfl, rfl⟩
    exact ⟨by simp [told, res, h], rfl⟩
  · obtain ⟨k, rfl⟩ : ∃ k : Nat, at' = (k : Int) := ⟨at'.toNat, by omega⟩
    have e1 : told (res bs (k : Int)) = ans k (decAt bs k) := by
      simp only [told, res, if_neg h, Int.toNat_natCast, ans]
    rw [e1]
    by_cases hk : k < bs.length
    · obtain ⟨ad, rfl, _, hc⟩ := hl.place (by simp; omega)
      exact get_any ad cap k bs w hk hcap hm (fun j c hj => hb c (List.mem_of_getElem? hj)) (bytes_at hc)
    · obtain rfl : k = bs.length := by omega
      exact get_end A cap bs w hcap hm
end Go.Proofs.YtnbknihaefkllaaGreatDoor.Vt
/- The reader of package batch: numbers, and the next bytes. -/
namespace Go.Proofs.YtnbknihaefkllaaGreatDoor.Bt
set_option linter.unusedVariables false
set_option linter.unusedSimpArgs false
open Go.RowKit Lift Ik Vn

set_option maxRecDepth 100000 in
set_option maxHeartbeats 400000 in
theorem numb_any (ad : Addr) (c B : Nat) (bs : List Nat) (w : World) (hl : Lies w B (some ad) (bs.map vb)) (hc : bs.length ≤ c) (h0 : bs ≠ []) (h8 : bs.length ≤ 8) (hb : ∀ x, x ∈ bs → x < 256) :
    Calls Tryz.prog 92 #[.slice (some ad) bs.length c] w fun e w' => e = .returned (.int .u64 (num bs : Nat)) ∧ w = w' := by
  obtain ⟨_, hA, _, hcell⟩ := hl.place (by have := List.length_pos_iff.2 h0; simpa using this)
  cases hA
  have HC := Lib.hid (cells_at hcell)
  have H8 := Lib.hid hb
  clear hl hcell hb h0
  go_enter Tryz.func92, Tryz.ntmps92
  go_wp2_with fail
  go_loop [3, 8] (fun x i => ∃ j y : Nat, j ≤ bs.length ∧ i = .int .i64 j ∧ x = .int .u64 y ∧ Hid (y = num ((bs.drop 0).take j)) ∧ Hid (y < 256 ^ j)) (fun _ i => 10 - (intOf i).toNat)
  case atStart => exact ⟨0, 0, by omega, rfl, rfl, Lib.hid rfl, Lib.hid (by decide)⟩
  case round =>
    obtain ⟨j, y, hj, rfl, rfl, hy, hlt8⟩ := hrel
    by_cases hlt : j < bs.length
    · obtain ⟨d, hd⟩ : ∃ d : Nat, bs[0 + j]? = some d := ⟨_, List.getElem?_eq_getElem (by omega)⟩
      have d8 := H8.out d (List.mem_of_getElem? hd)
      have h1 : w.cell? (ad.add j) = some (.int .u8 (d : Int)) := HC.out j d (by simpa using hd)
      have e := or_step y d j (by omega) hlt8.out d8
      have HD := Lib.hid hd
      clear hd
      go_wp2_with fail
      go_round
      case rel => exact ⟨j + 1, y + d * 256 ^ j, by omega, by go_num, by go_num, Lib.hid (num_step HD.out hy.out), Lib.hid (pow_step hlt8.out d8)⟩
      case measure => simp [intOf]; omega
    · obtain rfl : j = bs.length := by omega
      have e : Hid (y = num bs) := Lib.hid (by rw [hy.out]; simp)
      go_wp2_with fail
      go_ret
      exact ⟨by rw [e.out]; rfl, rfl⟩

/-- A reader of n bytes at A, at the place p. -/
abbrev Rd (w : World) (g : Nat) (A : Option Addr) (n c p : Nat) : Prop := Box w g 113 [.slice A n c, .int .i64 (p : Int)]

theorem slice_at (A : Option Addr) (n c p m : Nat) (h : p + m ≤ n) (hc : n ≤ c) (hm : c ≤ maxLen) :
    ∃ A', (0 < m → A' = A.map (·.add p)) ∧ (A.isSome = true → A'.isSome = true) ∧ ∀ W : World, Sem.run Tryz.prog (Instr.slice 24 (.slice A n c) (some (.int .i64 (p : Int))) (some (.int .i64 ((p : Int) + (m : Int)))) none) W = .ok (.slice A' m (c - p)) W := by
  unfold maxLen at hm
  by_cases hcp : c = p
  · refine ⟨A, fun h0 => by omega, id, fun W => ?_⟩
    obtain rfl : m = 0 := by omega
    obtain rfl : n = p := by omega
    subst hcp
    go_simp
  · refine ⟨A.map (·.add p), fun _ => rfl, fun h => by simpa using h, fun W => ?_⟩
    go_simp
    rw [if_pos ⟨by omega, by omega⟩, if_pos (by omega), show ((p : Int) + (m : Int)).toNat - p = m by omega]
set_option maxRecDepth 100000 in
set_option maxHeartbeats 400000 in
theorem part_short (g : Nat) (A : Option Addr) (n c p m : Nat) (w : World) (h : Rd w g A n c p) (hp : p ≤ n) (hn : n ≤ 20000000) (hm : n - p < m) (hm2 : m ≤ 20000000) :
    Calls Tryz.prog (91) #[.pointer (some ⟨g, 0, none⟩), .int .i64 (m : Int)] w fun e w' => e = .returned (.tuple #[.slice none 0 0, .int .i64 4]) ∧ Below w.heap.size w w' ∧ Rd w' g A n c p := by
  obtain ⟨p0, p1, _, _⟩ := h.facts2
  have H := Lib.hid h
  clear h
  have d1 : decide ((n : Int) - (p : Int) < (m : Int)) = true := by simp; omega
  go_enter Tryz.func91, Tryz.ntmps91
  go_wp2_with fail
  go_quiet (fail)
  go_wp2_with fail
  go_returns
  exact ⟨rfl, Joins.below_draws _ _ _, H.out⟩
set_option maxRecDepth 100000 in
set_option maxHeartbeats 400000 in
theorem part_ok (g : Nat) (ad0 : Addr) (bs : List Nat) (c p m : Nat) (w : World) (h : Rd w g (some ad0) bs.length c p) (hl : Lies w g (some ad0) (bs.map vb)) (hc : bs.length ≤ c) (hcm : c ≤ maxLen) (hp : p ≤ bs.length) (hn : bs.length ≤ 20000000) (hm : m ≤ bs.length - p) :
    Calls Tryz.prog (91) #[.pointer (some ⟨g, 0, none⟩), .int .i64 (m : Int)] w fun e w' => ∃ ad' : Addr, e = .returned (.tuple #[.slice (some ad') m (c - p), .int .i64 0]) ∧ Lies w' g (some ad') (((bs.drop p).take m).map vb) ∧ Keep (· = g) w w' ∧ Rd w' g (some ad0) bs.length c (p + m) := by
  obtain ⟨A', hA', hsome, hs⟩ := slice_at (some ad0) bs.length c p m (by omega) hc hcm
  obtain ⟨ad', rfl⟩ : ∃ ad', A' = some ad' := Option.isSome_iff_exists.1 (hsome rfl)
  clear hsome
  obtain ⟨p0, p1, f0, f1⟩ := h.facts2
  have H := Lib.hid h
  have HL := Lib.hid hl
  have HA := Lib.hid hA'
  have d1 : decide ((bs.length : Int) - (p : Int) < (m : Int)) = false := by simp; omega
  clear h hl hA'
  go_enter Tryz.func91, Tryz.ntmps91
  go_wp2_with fail
  go_quiet (fail)
  go_wp2_with fail
  go_quiet (fail)
  go_wp2_with fail
  go_returns
  have hb : ∀ (u : Value) (n1 n2 : Nat), Keep (· = g) w (((w.drewN n1).setCell ⟨g, 1, none⟩ u).drewN n2) := fun u n1 n2 =>
    (Keep.setCell (below_keep (S := (· = g)) (Joins.below_draws w.heap.size w n1)) (p := ⟨g, 1, none⟩) (.inr rfl) u).trans (T := (· = g)) (below_keep (Joins.below_draws _ ((w.drewN n1).setCell ⟨g, 1, none⟩ u) n2)) fun _ _ h => h
  have hlies : ∀ w', Keep (· = g) w w' → Lies w' g (some ad') (((bs.drop p).take m).map vb) := by
    intro w' hk0
    have hk := hk0.below (B := g) (by have := H.out.lt; omega) (fun k hk => by omega)
    by_cases h0 : m = 0
    · left; subst h0; simp
    · rw [HA.out (by omega)]
      obtain ⟨ad, hada, hadb, hcell⟩ := HL.out.place (by simp; omega)
      cases hada
      refine .inr ⟨ad0.add p, rfl, by rw [add_block]; exact hadb, fun j u hj => ?_⟩
      rw [add_add]
      refine (hk.cell (by rw [add_block]; exact hadb)).trans (hcell _ _ ?_)
      rw [← hj, List.getElem?_map, List.getElem?_map, List.getElem?_take_of_lt, List.getElem?_drop]
      have := (List.getElem?_eq_some_iff.1 hj).1
      simp at this
      omega
  exact ⟨ad', rfl, hlies _ (hb _ _ _), hb _ _ _, Box.set (us := [.slice (some ad0) bs.length c, .int .i64 (p : Int)]) H.out 1 _⟩
end Go.Proofs.YtnbknihaefkllaaGreatDoor.Bt
/- The reader of package batch: kinds and texts. -/
namespace Go.Proofs.YtnbknihaefkllaaGreatDoor.Bt
set_option linter.unusedVariables false
set_option linter.unusedSimpArgs false
open Go.RowKit Lift Ik Vn

def kindL : List Nat → Nat × Nat
  | [] => (4, 0)
  | c :: _ => if 1 < c then (2, 0) else (0, c)
theorem dec_three : ∀ (l : List Nat) (i y : Nat), (dec l i y).2.2 = 0 ∨ (dec l i y).2.2 = 2 ∨ (dec l i y).2.2 = 4 := by
  intro l
  induction l with
  | nil => intro i y; simp [dec]
  | cons c l ih =>
    intro i y
    simp only [dec]
    split
    · simp
    · split
      · simp
      · exact ih _ _
theorem dec_len : ∀ (l : List Nat) (i y : Nat), (dec l i y).2.2 = 0 → i + 1 ≤ (dec l i y).2.1 ∧ (dec l i y).2.1 ≤ i + l.length := by
  intro l
  induction l with
  | nil => intro i y h; simp [dec] at h
  | cons c l ih =>
    intro i y h
    simp only [dec] at h ⊢
    split
    · rename_i h1
      rw [if_pos h1] at h
      cases h
    · rename_i h1
      rw [if_neg h1] at h
      split
      · simp
      · rename_i h2
        rw [if_neg h2] at h
        have := ih _ _ h
        simp
        omega

/-- A reader of the bytes bs that lie below it. -/
structure Rdr (w : World) (g : Nat) (ad : Addr) (c : Nat) (bs : List Nat) (p : Nat) : Prop where
  rd : Rd w g (some ad) bs.length c p
  lies : Lies w g (some ad) (bs.map vb)
  cap : bs.length ≤ c
  max : c ≤ maxLen
  byte : ∀ x, x ∈ bs → x < 256
  small : bs.length ≤ 20000000
  le : p ≤ bs.length
theorem Rdr.at' {w w' : World} {g c p q : Nat} {ad : Addr} {bs : List Nat} (h : Rdr w g ad c bs p) (hk : Keep (· = g) w w') (hr : Rd w' g (some ad) bs.length c q) (hq : q ≤ bs.length) : Rdr w' g ad c bs q :=
  ⟨hr, h.lies.below (hk.below (Nat.le_of_lt h.rd.lt) fun k hk => by omega), h.cap, h.max, h.byte, h.small, hq⟩

theorem Rdr.below {w w' : World} {g c p B : Nat} {ad : Addr} {bs : List Nat} (h : Rdr w g ad c bs p) (hb : Below B w w') (hg : g < B) : Rdr w' g ad c bs p :=
  ⟨h.rd.below hb hg, h.lies.below (hb.mono (Nat.le_of_lt hg)), h.cap, h.max, h.byte, h.small, h.le⟩

set_option maxRecDepth 100000 in
set_option maxHeartbeats 400000 in
theorem kind_any (g : Nat) (ad : Addr) (c p : Nat) (bs : List Nat) (w : World) (h : Rdr w g ad c bs p) :
    Calls Tryz.prog (93) #[.pointer (some ⟨g, 0, none⟩)] w fun e w' => ∃ q, e = .returned (.tuple #[.int .i64 ((kindL (bs.drop p)).2 : Int), .int .i64 ((kindL (bs.drop p)).1 : Int)]) ∧ Keep (· = g) w w' ∧ Rdr w' g ad c bs q ∧ ((kindL (bs.drop p)).1 = 0 → q = p + 1) := by
  have H := Lib.hid h
  by_cases hp : p < bs.length
  · obtain ⟨k, hk⟩ : ∃ k, bs[p]? = some k := ⟨_, List.getElem?_eq_getElem hp⟩
    have hdr := drop_cons hk
    have e1 : kindL (bs.drop p) = if 1 < k then (2, 0) else (0, k) := by rw [hdr]; rfl
    have hpart := part_ok g ad bs c p 1 w h.rd h.lies h.cap h.max h.le h.small (by omega)
    have k8 := h.byte k (List.mem_of_getElem? hk)
    have ht : (bs.drop p).take 1 = [k] := by rw [hdr]; rfl
    rw [ht] at hpart
    have E1 := Lib.hid e1
    have HP := Lib.hid hpart
    clear h hk hdr e1 hpart ht
    go_enter Tryz.func93, Tryz.ntmps93
    go_wp2_with fail
    refine (show Calls Tryz.prog (91) #[.pointer (some ⟨g, 0, none⟩), .int .i64 1] w _ from HP.out).mono ?_
    rintro e W1 ⟨ad', rfl, hl1, hk1, hr1⟩
    obtain ⟨_, hA, _, hcell⟩ := hl1.place (by simp)
    cases hA
    have c0 : W1.cell? ad' = some (.int .u8 (k : Int)) := hcell 0 _ rfl
    have HR := Lib.hid (H.out.at' hk1 hr1 (by omega))
    have HK := Lib.hid hk1
    clear hl1 hk1 hr1 hcell HP
    by_cases hk2 : 1 < k
    · have d0 : ((k : Int) != 0) = true := by rw [bne_iff_ne]; omega
      have d1 : ((k : Int) != 1) = true := by rw [bne_iff_ne]; omega
      have E2 := Lib.hid (show kindL (bs.drop p) = (2, 0) by rw [E1.out, if_pos hk2])
      clear hk2
      go_wp2_with fail
      go_returns
      exact ⟨p + 1, by rw [E2.out]; rfl, HK.out, HR.out, fun _ => rfl⟩
    · have E2 := Lib.hid (show kindL (bs.drop p) = (0, k) by rw [E1.out, if_neg hk2])
      rcases (show k = 0 ∨ k = 1 by omega) with rfl | rfl
      · go_wp2_with fail
        go_returns
        exact ⟨p + 1, by rw [E2.out]; rfl, HK.out, HR.out, fun _ => rfl⟩
      · go_wp2_with fail
        go_returns
        exact ⟨p + 1, by rw [E2.out]; rfl, HK.out, HR.out, fun _ => rfl⟩
  · have E1 := Lib.hid (show kindL (bs.drop p) = (4, 0) by rw [List.drop_of_length_le (by omega)]; rfl)
    have HP := Lib.hid (part_short g (some ad) bs.length c p 1 w h.rd h.le h.small (by omega) (by omega))
    clear h
    go_enter Tryz.func93, Tryz.ntmps93
    go_wp2_with fail
    refine (show Calls Tryz.prog (91) #[.pointer (some ⟨g, 0, none⟩), .int .i64 1] w _ from HP.out).mono ?_
    rintro e W1 ⟨rfl, hb1, hr1⟩
    have HK := Lib.hid (below_keep (S := (· = g)) hb1)
    have HR := Lib.hid (H.out.at' HK.out hr1 H.out.le)
    clear hb1 hr1 HP
    go_wp2_with fail
    go_returns
    exact ⟨p, by rw [E1.out]; rfl, HK.out, HR.out, fun hq => by rw [E1.out] at hq; cases hq⟩

theorem field_bad {l : List Nat} {lo hi x k er : Nat} (hd : dec l 0 0 = (x, k, er)) (h : er ≠ 0) : fieldL l lo hi = (er, [], 0) := by unfold fieldL; rw [hd]; simp [h]
theorem field_out {l : List Nat} {lo hi x k : Nat} (hd : dec l 0 0 = (x, k, 0)) (h : x < lo ∨ hi < x) : fieldL l lo hi = (2, [], 0) := by unfold fieldL; rw [hd]; simp [h]
theorem field_short {l : List Nat} {lo hi x k : Nat} (hd : dec l 0 0 = (x, k, 0)) (h : ¬ (x < lo ∨ hi < x)) (hs : l.length - k < x) : fieldL l lo hi = (4, [], 0) := by
  unfold fieldL; rw [hd]; simp only; rw [if_neg (by omega), if_neg h, if_pos (by rw [List.length_drop]; exact hs)]
theorem field_ok {l : List Nat} {lo hi x k : Nat} (hd : dec l 0 0 = (x, k, 0)) (h : ¬ (x < lo ∨ hi < x)) (hs : ¬ l.length - k < x) : fieldL l lo hi = (0, (l.drop k).take x, k + x) := by
  unfold fieldL; rw [hd]; simp only; rw [if_neg (by omega), if_neg h, if_neg (by rw [List.length_drop]; exact hs)]
theorem res_at (bs : List Nat) (p : Nat) (h : p ≤ bs.length) {x k er : Nat} (hd : dec (bs.drop p) 0 0 = (x, k, er)) : Vt.told (Vt.res bs (p : Int)) = .returned (.tuple #[.int .u64 (x : Int), .int .i64 ((if er = 0 then p + k else 0 : Nat) : Int), .int .i64 (er : Int)]) := by
  have e : decAt bs p = (x, k, er) := hd
  unfold Vt.told Vt.res
  rw [if_neg (by omega), Int.toNat_natCast, e]

/-- What a text is told as. -/
def Texted (w : World) (g : Nat) (ad : Addr) (c : Nat) (bs : List Nat) (p : Nat) (r : Nat × List Nat × Nat) (e : Ending) (w' : World) : Prop :=
  ∃ (A1 : Option Addr) (c1 q : Nat), e = .returned (.tuple #[.slice A1 r.2.1.length c1, .int .i64 (r.1 : Int)]) ∧ LiesP w' (fun k => w.heap.size ≤ k ∧ k < w'.heap.size) A1 (r.2.1.map vb) ∧ r.2.1.length ≤ c1 ∧ c1 ≤ maxLen ∧
    Keep (· = g) w w' ∧ Rdr w' g ad c bs q ∧ (r.1 = 0 → q = p + r.2.2)
theorem texted_bad {w w' : World} {g c p q er : Nat} {ad : Addr} {bs : List Nat} (h : er ≠ 0) (hk : Keep (· = g) w w') (hr : Rdr w' g ad c bs q) :
    Texted w g ad c bs p (er, [], 0) (.returned (.tuple #[.slice none 0 0, .int .i64 (er : Int)])) w' :=
  ⟨none, 0, q, rfl, .inl rfl, Nat.le_refl _, by decide, hk, hr, fun h0 => absurd h0 h⟩
theorem keep_setCell {w : World} {g : Nat} (u : Value) : Keep (· = g) w (w.setCell ⟨g, 1, none⟩ u) := (Keep.refl (· = g) w).setCell (p := ⟨g, 1, none⟩) (.inr rfl) u

set_option maxRecDepth 100000 in
set_option maxHeartbeats 400000 in
theorem text_rd (g : Nat) (ad : Addr) (c p lo hi : Nat) (bs : List Nat) (w : World) (h : Rdr w g ad c bs p) (hhi : hi ≤ 4096) (hlo : lo ≤ hi) :
    Calls Tryz.prog (94) #[.pointer (some ⟨g, 0, none⟩), .int .u64 (lo : Int), .int .u64 (hi : Int)] w (Texted w g ad c bs p (fieldL (bs.drop p) lo hi)) := by
  have H := Lib.hid h
  obtain ⟨p0, p1, f0, f1⟩ := h.rd.facts2
  obtain ⟨x, k, er, hd⟩ : ∃ x k er, dec (bs.drop p) 0 0 = (x, k, er) := ⟨_, _, _, rfl⟩
  have hget := fun n => Vt.get_calls (some ad) c g bs (p : Int) (w.drewN n) (h.lies.below (Joins.below_draws g w n)) h.cap (Nat.le_trans h.cap h.max) h.byte
  rw [res_at bs p h.le hd] at hget
  have h3 := dec_three (bs.drop p) 0 0
  have hlen := dec_len (bs.drop p) 0 0
  have hx := dec_lt (bs.drop p) 0 0 (by omega) (by decide)
  rw [hd] at h3 hlen hx
  simp only at h3 hlen hx
  have HD := Lib.hid hd
  have HX := Lib.hid hx
  clear h hd hx
  rcases h3 with rfl | rfl | rfl
  · rw [if_pos rfl] at hget
    have hlen := hlen rfl
    rw [List.length_drop] at hlen
    have hple := H.out.le
    have HG := Lib.hid hget
    have HL := Lib.hid hlen
    clear hget
    by_cases hx1 : x < lo ∨ hi < x
    · have E := Lib.hid (field_out HD.out hx1)
      by_cases hx2 : x < lo
      · have d1 : decide (x < lo) = true := by simp; omega
        clear hx1
        go_enter Tryz.func94, Tryz.ntmps94
        go_wp2_with fail
        go_quiet (first | (go_at_call 101; refine Calls.quiet_of_same ((HG.out _).mono fun e w' hh => ⟨hh.1, hh.2.symm⟩)))
        go_wp2_with fail
        go_returns
        rw [E.out]
        exact texted_bad (by decide) (below_keep (Joins.below_draws _ _ _)) (H.out.at' (below_keep (Joins.below_draws _ _ _)) H.out.rd H.out.le)
      · have d1 : decide (x < lo) = false := by simp; omega
        have d2 : decide (hi < x) = true := by simp; omega
        clear hx1
        go_enter Tryz.func94, Tryz.ntmps94
        go_wp2_with fail
        go_quiet (first | (go_at_call 101; refine Calls.quiet_of_same ((HG.out _).mono fun e w' hh => ⟨hh.1, hh.2.symm⟩)))
        go_wp2_with fail
        go_returns
        rw [E.out]
        exact texted_bad (by decide) (below_keep (Joins.below_draws _ _ _)) (H.out.at' (below_keep (Joins.below_draws _ _ _)) H.out.rd H.out.le)
    · have d1 : decide (x < lo) = false := by simp; omega
      have d2 : decide (hi < x) = false := by simp; omega
      have hx4 : x ≤ 4096 := by omega
      have E1 := Lib.hid hx1
      have HS := Lib.hid fun (n : Nat) => (show Keep (· = g) w ((w.drewN n).setCell ⟨g, 1, none⟩ (.int .i64 ((p : Int) + (k : Int)))) from (below_keep (S := (· = g)) (Joins.below_draws w.heap.size w n)).setCell (p := ⟨g, 1, none⟩) (.inr rfl) _)
      have HT := Lib.hid fun (n : Nat) => H.out.at' (HS.out n) (q := p + k) (Box.set (us := [.slice (some ad) bs.length c, .int .i64 (p : Int)]) H.out.rd 1 _) (by omega)
      clear hx1
      by_cases hs : bs.length - (p + k) < x
      · have E := Lib.hid (field_short HD.out E1.out (by rw [List.length_drop]; omega))
        go_enter Tryz.func94, Tryz.ntmps94
        go_wp2_with fail
        go_quiet (first | (go_at_call 101; refine Calls.quiet_of_same ((HG.out _).mono fun e w' hh => ⟨hh.1, hh.2.symm⟩)))
        go_wp2_with fail
        refine (part_short g (some ad) bs.length c (p + k) x _ (HT.out _).rd (by omega) H.out.small hs (by omega)).mono ?_
        rintro e W2 ⟨rfl, hb2, hr2⟩
        have HK2 := Lib.hid ((HS.out _).trans (below_keep (S := (· = g)) hb2) fun _ _ h => h)
        have HR2 := Lib.hid ((HT.out _).at' (below_keep hb2) hr2 (by omega))
        clear hb2 hr2
        go_wp2_with fail
        refine (clone_nil _).mono ?_; rintro e w' ⟨rfl, rfl⟩
        go_wp2_with fail
        go_returns
        rw [E.out]
        exact texted_bad (by decide) HK2.out HR2.out
      · have E := Lib.hid (field_ok HD.out E1.out (by rw [List.length_drop]; omega))
        rw [List.drop_drop] at E
        have htl : ((bs.drop (p + k)).take x).length = x := by rw [List.length_take, List.length_drop]; omega
        go_enter Tryz.func94, Tryz.ntmps94
        go_wp2_with fail
        go_quiet (first | (go_at_call 101; refine Calls.quiet_of_same ((HG.out _).mono fun e w' hh => ⟨hh.1, hh.2.symm⟩)))
        go_wp2_with fail
        refine (part_ok g ad bs c (p + k) x _ (HT.out _).rd (HT.out _).lies H.out.cap H.out.max (by omega) H.out.small (by omega)).mono ?_
        rintro e W2 ⟨ad', rfl, hl2, hk2, hr2⟩
        have hR2 := (HT.out _).at' hk2 hr2 (by omega)
        have HK2 := Lib.hid ((HS.out _).trans hk2 fun _ _ h => h)
        have hcl := clone_any ad' (c - (p + k)) ((bs.drop (p + k)).take x) W2 (hl2.up (Nat.le_of_lt hr2.lt)) (by rw [htl]; omega)
        rw [htl] at hcl
        have HR2 := Lib.hid hR2
        have HCL := Lib.hid hcl
        have HTL := Lib.hid htl
        clear hl2 hk2 hr2 hR2 hcl htl
        go_wp2_with fail
        refine HCL.out.mono ?_
        intro e W3 hm3
        obtain ⟨v3, rfl, hown3, hb3⟩ := hm3
        have hp3 := hown3
        rw [HTL.out] at hp3
        obtain ⟨A3, c3, rfl, hc3, hcm3, _⟩ := own_parts hp3
        have hlp := LiesP.of_own hp3
        have HK3 := Lib.hid (HK2.out.trans (below_keep (S := (· = g)) hb3) fun _ _ h => h)
        have HR3 := Lib.hid (HR2.out.at' (below_keep hb3) (HR2.out.rd.below hb3 HR2.out.rd.lt) (by omega))
        have HLP := Lib.hid (hlp.later (R' := fun k => w.heap.size ≤ k ∧ k < W3.heap.size) (fun _ _ => rfl) fun k hk => ⟨Nat.le_trans HK2.out.size hk.1, hk.2.1⟩)
        have HC3 := Lib.hid hc3
        have HM3 := Lib.hid hcm3
        clear hown3 hb3 hp3 hc3 hcm3 hlp HCL
        go_wp2_with fail
        go_returns
        rw [E.out]
        refine ⟨A3, c3, p + k + x, ?_, HLP.out, by rw [HTL.out]; exact HC3.out, HM3.out, HK3.out, HR3.out, fun _ => by simp only; omega⟩
        rw [HTL.out]
        rfl
  · have E := Lib.hid (field_bad (lo := lo) (hi := hi) HD.out (by decide))
    rw [if_neg (by decide)] at hget
    have HG := Lib.hid hget
    clear hget hlen
    go_enter Tryz.func94, Tryz.ntmps94
    go_wp2_with fail
    go_quiet (first | (go_at_call 101; refine Calls.quiet_of_same ((HG.out _).mono fun e w' hh => ⟨hh.1, hh.2.symm⟩)))
    go_wp2_with fail
    go_returns
    rw [E.out]
    exact texted_bad (by decide) (below_keep (Joins.below_draws _ _ _)) (H.out.at' (below_keep (Joins.below_draws _ _ _)) H.out.rd H.out.le)
  · have E := Lib.hid (field_bad (lo := lo) (hi := hi) HD.out (by decide))
    rw [if_neg (by decide)] at hget
    have HG := Lib.hid hget
    clear hget hlen
    go_enter Tryz.func94, Tryz.ntmps94
    go_wp2_with fail
    go_quiet (first | (go_at_call 101; refine Calls.quiet_of_same ((HG.out _).mono fun e w' hh => ⟨hh.1, hh.2.symm⟩)))
    go_wp2_with fail
    go_returns
    rw [E.out]
    exact texted_bad (by decide) (below_keep (Joins.below_draws _ _ _)) (H.out.at' (below_keep (Joins.below_draws _ _ _)) H.out.rd H.out.le)
end Go.Proofs.YtnbknihaefkllaaGreatDoor.Bt
/- The reader of package batch: operations. -/
namespace Go.Proofs.YtnbknihaefkllaaGreatDoor.Bt
set_option linter.unusedVariables false
set_option linter.unusedSimpArgs false
open Go.RowKit Lift Ik Vn

theorem field_three (l : List Nat) (lo hi : Nat) : (fieldL l lo hi).1 = 0 ∨ ((fieldL l lo hi).1 = 2 ∧ (fieldL l lo hi).2.1 = []) ∨ ((fieldL l lo hi).1 = 4 ∧ (fieldL l lo hi).2.1 = []) := by
  have := dec_three l 0 0
  unfold fieldL
  split
  · rcases this with h | h | h
    · contradiction
    · exact .inr (.inl ⟨h, rfl⟩)
    · exact .inr (.inr ⟨h, rfl⟩)
  · split
    · exact .inr (.inl ⟨rfl, rfl⟩)
    · split
      · exact .inr (.inr ⟨rfl, rfl⟩)
      · exact .inl rfl
theorem field_mem (l : List Nat) (lo hi : Nat) : ∀ x, x ∈ (fieldL l lo hi).2.1 → x ∈ l := by
  intro x hx
  unfold fieldL at hx
  split at hx
  · simp at hx
  · split at hx
    · simp at hx
    · split at hx
      · simp at hx
      · exact List.mem_of_mem_drop (List.mem_of_mem_take hx)
abbrev zD : D := ⟨0, none, 0, [], none, 0, []⟩
theorem zD_ok (w : World) (R : Nat → Prop) : zD.Ok w R := ⟨.inl rfl, Nat.le_refl _, (show 0 ≤ maxLen by decide), by simp, .inl rfl, Nat.le_refl _, (show 0 ≤ maxLen by decide), by simp, by simp, by simp⟩
/-- What an operation is told as. -/
def Opped (w : World) (g : Nat) (ad : Addr) (c : Nat) (bs : List Nat) (p : Nat) (r : Nat × O × Nat) (e : Ending) (w' : World) : Prop :=
  ∃ (d : D) (q : Nat), e = .returned (.tuple #[d.v, .int .i64 (r.1 : Int)]) ∧ d.o = r.2.1 ∧ d.Ok w' (fun k => w.heap.size ≤ k ∧ k < w'.heap.size) ∧ Keep (· = g) w w' ∧ Rdr w' g ad c bs q ∧ (r.1 = 0 → q = p + r.2.2)
/-- The operation's cells laid into the box of the result. -/
theorem op_end {w W : World} {g c q : Nat} {ad : Addr} {bs : List Nat} {us : List Value} (d : D) (hg : g < w.heap.size) (hk : Keep (· = g) w W) (hr : Rdr W g ad c bs q) (hu : us.length = 3) (hb : Box W w.heap.size 51 us) (hd : d.Ok W (fun k => w.heap.size + 2 ≤ k ∧ k < W.heap.size)) :
    ∀ W', W' = ((W.setCell ⟨w.heap.size, 0, none⟩ (.int .i64 d.kind)).setCell ⟨w.heap.size, 1, none⟩ (.slice d.ka d.key.length d.kc)).setCell ⟨w.heap.size, 2, none⟩ (.slice d.va d.val.length d.vc) →
      Keep (· = g) w W' ∧ Rdr W' g ad c bs q ∧ Box W' w.heap.size 51 [.int .i64 d.kind, .slice d.ka d.key.length d.kc, .slice d.va d.val.length d.vc] ∧ d.Ok W' (fun k => w.heap.size ≤ k ∧ k < W'.heap.size) := by
  rintro W' rfl
  have h1 : Keep (· = w.heap.size) W (((W.setCell ⟨w.heap.size, 0, none⟩ (.int .i64 d.kind)).setCell ⟨w.heap.size, 1, none⟩ (.slice d.ka d.key.length d.kc)).setCell ⟨w.heap.size, 2, none⟩ (.slice d.va d.val.length d.vc)) :=
    (((Keep.refl (· = w.heap.size) W).setCell (p := ⟨w.heap.size, 0, none⟩) (.inr rfl) _).setCell (p := ⟨w.heap.size, 1, none⟩) (.inr rfl) _).setCell (p := ⟨w.heap.size, 2, none⟩) (.inr rfl) _
  refine ⟨hk.trans h1 fun i hi he => by omega, hr.below (h1.below (B := w.heap.size) hk.size fun k hk2 => by omega) hg, ?_, hd.later (fun k hk2 => h1.block k hk2.2 (by omega)) fun k hk2 => ⟨by omega, Nat.lt_of_lt_of_le hk2.2 h1.size⟩⟩
  match us, hu with
  | [u0, u1, u2], _ => exact ((hb.set 0 _).set 1 _).set 2 _

theorem op_bad (l : List Nat) (h : (kindL l).1 ≠ 0) : opL l = ((kindL l).1, noO, 0) := by
  cases l with
  | nil => rfl
  | cons c r =>
    simp only [kindL] at h ⊢
    split
    · rename_i h1; simp [opL, h1]
    · rename_i h1; rw [if_neg h1] at h; simp at h
theorem kind_three (l : List Nat) : (kindL l).1 = 0 ∨ kindL l = (2, 0) ∨ kindL l = (4, 0) := by
  cases l with
  | nil => exact .inr (.inr rfl)
  | cons c r => simp only [kindL]; split; exact .inr (.inl rfl); exact .inl rfl
theorem kind_good {bs : List Nat} {p : Nat} (h : (kindL (bs.drop p)).1 = 0) : ∃ k, k ≤ 1 ∧ bs.drop p = k :: bs.drop (p + 1) ∧ kindL (bs.drop p) = (0, k) := by
  cases hl : bs.drop p with
  | nil => rw [hl] at h; simp [kindL] at h
  | cons c r =>
    rw [hl] at h
    have hc : ¬ 1 < c := by intro h1; simp [kindL, h1] at h
    refine ⟨c, by omega, ?_, by simp [kindL, hc]⟩
    rw [← List.drop_drop, hl]; rfl
theorem opL_text {k fe : Nat} {r ft : List Nat} {fk : Nat} (hk : k ≤ 1) (hf : fieldL r 1 256 = (fe, ft, fk)) (he : fe ≠ 0) : opL (k :: r) = (fe, noO, 0) := by simp only [opL]; rw [if_neg (by omega), hf]; simp [he]
theorem opL_del {r ft : List Nat} {fk : Nat} (hf : fieldL r 1 256 = (0, ft, fk)) : opL (0 :: r) = (0, ⟨0, ft, []⟩, 1 + fk) := by simp only [opL]; rw [if_neg (by omega), hf]; simp
theorem opL_put {r ft gt : List Nat} {fk ge gk : Nat} (hf : fieldL r 1 256 = (0, ft, fk)) (hg : fieldL (r.drop fk) 0 4096 = (ge, gt, gk)) : opL (1 :: r) = if ge ≠ 0 then (ge, noO, 0) else (0, ⟨1, ft, gt⟩, 1 + fk + gk) := by
  simp only [opL]; rw [if_neg (by omega), hf]; simp only; rw [hg]; simp

set_option maxRecDepth 100000 in
set_option maxHeartbeats 800000 in
theorem op_rd (g : Nat) (ad : Addr) (c p : Nat) (bs : List Nat) (w : World) (h : Rdr w g ad c bs p) :
    Calls Tryz.prog 84 #[.pointer (some ⟨g, 0, none⟩)] w (Opped w g ad c bs p (opL (bs.drop p))) := by
  have H := Lib.hid h
  have hb2 := Joins.below_alloc2 w (.cells #[.int .i64 0, .slice none 0 0, .slice none 0 0] 51) (.cells #[.int .i64 0, .slice none 0 0, .slice none 0 0] 51)
  have b2 : Box ((w.alloc (.cells #[.int .i64 0, .slice none 0 0, .slice none 0 0] 51)).alloc (.cells #[.int .i64 0, .slice none 0 0, .slice none 0 0] 51)) w.heap.size 51 [.int .i64 0, .slice none 0 0, .slice none 0 0] := (Box.new w 51 [.int .i64 0, .slice none 0 0, .slice none 0 0]).alloc _
  have b4 : Box ((w.alloc (.cells #[.int .i64 0, .slice none 0 0, .slice none 0 0] 51)).alloc (.cells #[.int .i64 0, .slice none 0 0, .slice none 0 0] 51)) (w.heap.size + 1) 51 [.int .i64 0, .slice none 0 0, .slice none 0 0] := by
    have := Box.new (w.alloc (.cells #[.int .i64 0, .slice none 0 0, .slice none 0 0] 51)) 51 [.int .i64 0, .slice none 0 0, .slice none 0 0]
    rw [show (w.alloc (.cells #[.int .i64 0, .slice none 0 0, .slice none 0 0] 51)).heap.size = w.heap.size + 1 by simp] at this
    exact this
  have hz : ((w.alloc (.cells #[.int .i64 0, .slice none 0 0, .slice none 0 0] 51)).alloc (.cells #[.int .i64 0, .slice none 0 0, .slice none 0 0] 51)).heap.size = w.heap.size + 2 := by simp
  have hglt := h.rd.lt
  have hr0 := h.below hb2 hglt
  have hkind := kind_any g ad c p bs _ hr0
  have hk0 : Keep (· = g) w ((w.alloc (.cells #[.int .i64 0, .slice none 0 0, .slice none 0 0] 51)).alloc (.cells #[.int .i64 0, .slice none 0 0, .slice none 0 0] 51)) := below_keep hb2
  clear h hb2 hr0
  go_enter Tryz.func84, Tryz.ntmps84
  go_wp2_with fail
  generalize (w.alloc (.cells #[.int .i64 0, .slice none 0 0, .slice none 0 0] 51)).alloc (.cells #[.int .i64 0, .slice none 0 0, .slice none 0 0] 51) = w0 at b2 b4 hz hkind hk0 ⊢
  refine hkind.mono ?_
  rintro e W1 ⟨q1, rfl, hk1, hr1, hq1⟩
  have b21 := b2.keep hk1 (by omega)
  have b41 := b4.keep hk1 (by omega)
  have hz1 : w.heap.size + 2 ≤ W1.heap.size := by have := hk1.size; omega
  have hk1 := hk0.trans hk1 fun _ _ h => h
  obtain ⟨p0, p1, p2, p3, p4, p5⟩ := b21.facts3
  obtain ⟨s0, s1, s2, s3, s4, s5⟩ := b41.facts3
  have K1 := Lib.hid hk1
  have R1 := Lib.hid hr1
  have Q1 := Lib.hid hq1
  have B2 := Lib.hid b21
  have B4 := Lib.hid b41
  have HZ := Lib.hid hz1
  have HLT := Lib.hid hglt
  clear b2 b4 hz hkind hk0 hk1 hr1 hq1 b21 b41 hz1 hglt
  have R2 := Lib.hid fun (u : Value) => R1.out.below (w' := W1.setCell ⟨w.heap.size + 1, 0, none⟩ u) (B := w.heap.size) ((Below.refl _ _).setCell (Nat.le_succ _) u) HLT.out
  have K2 := Lib.hid fun (u : Value) => K1.out.setCell (p := ⟨w.heap.size + 1, 0, none⟩) (.inl (Nat.le_succ _)) u
  have B2S := Lib.hid fun (u : Value) => B2.out.setOther (p := ⟨w.heap.size + 1, 0, none⟩) (by simp) u
  rcases kind_three (bs.drop p) with hk | hk | hk
  · obtain ⟨k, hk1, hdr, hkk⟩ := kind_good hk
    have Q2 := Lib.hid (Q1.out hk)
    rw [hkk]
    clear hk hkk
    obtain ⟨fe, ft, fk, hf⟩ : ∃ fe ft fk, fieldL (bs.drop (p + 1)) 1 256 = (fe, ft, fk) := ⟨_, _, _, rfl⟩
    have h3 := field_three (bs.drop (p + 1)) 1 256
    rw [hf] at h3
    simp only at h3
    obtain rfl := Q2.out
    have HT := Lib.hid fun (u : Value) => text_rd g ad c (p + 1) 1 256 bs _ (R2.out u) (by decide) (by decide)
    rw [hf] at HT
    have hmem := field_mem (bs.drop (p + 1)) 1 256
    rw [hf] at hmem
    have T8 := Lib.hid (show ∀ x, x ∈ ft → x < 256 from fun x hx => R1.out.byte x (List.mem_of_mem_drop (hmem x hx)))
    clear hmem
    have DR := Lib.hid hdr
    have FF := Lib.hid hf
    clear hdr hf Q1 Q2
    go_wp2_with fail
  
    refine (show Calls Tryz.prog 94 #[.pointer (some ⟨g, 0, none⟩), .int .u64 1, .int .u64 256] (W1.setCell ⟨w.heap.size + 1, 0, none⟩ (.int .i64 (k : Int))) _ from HT.out _).mono ?_
    rintro e W3 ⟨A1, c1, q3, rfl, hl3, hc3, hm3, hk3, hr3, hq3⟩
    have b23 := (B2.out.setOther (p := ⟨w.heap.size + 1, 0, none⟩) (by simp) (.int .i64 (k : Int))).keep hk3 (by have := HLT.out; omega)
    have b43 := (B4.out.set 0 (.int .i64 (k : Int))).keep hk3 (by have := HLT.out; omega)
    have hsz3 : W1.heap.size ≤ W3.heap.size := by have := hk3.size; simpa [World.setCell] using this
    have K3 := Lib.hid ((K2.out (.int .i64 (k : Int))).trans hk3 fun _ _ h => h)
    have R3 := Lib.hid hr3
    have B23 := Lib.hid b23
    have B43 := Lib.hid b43
    have Q3 := Lib.hid hq3
    have HZ3 := Lib.hid (Nat.le_trans HZ.out hsz3)
    have L3 := Lib.hid (hl3.later (R' := fun k => w.heap.size + 2 ≤ k ∧ k < W3.heap.size) (fun _ _ => rfl) fun k hk => ⟨Nat.le_trans HZ.out (by have := hk.1; simpa [World.setCell] using this), hk.2⟩)
    have C3 := Lib.hid hc3
    have M3 := Lib.hid hm3
    clear p0 p1 p2 p3 p4 p5 s0 s1 s2 s3 s4 s5 hl3 hc3 hm3 hk3 hr3 hq3 hsz3 HT
    obtain ⟨p0, p1, p2, p3, p4, p5⟩ := b23.facts3
    obtain ⟨s0, s1, s2, s3, s4, s5⟩ := Box.facts3 (u0 := .int .i64 (k : Int)) (u1 := .slice none 0 0) (u2 := .slice none 0 0) b43
    clear b23 b43
    have K4 := Lib.hid fun (u : Value) => K3.out.setCell (p := ⟨w.heap.size + 1, 1, none⟩) (.inl (Nat.le_succ _)) u
    have R4 := Lib.hid fun (u : Value) => R3.out.below (w' := W3.setCell ⟨w.heap.size + 1, 1, none⟩ u) (B := w.heap.size) ((Below.refl _ _).setCell (Nat.le_succ _) u) HLT.out
    have B4S := Lib.hid fun (u : Value) => B23.out.setOther (p := ⟨w.heap.size + 1, 1, none⟩) (by simp) u
    have L4 := Lib.hid fun (u : Value) => L3.out.later (w' := W3.setCell ⟨w.heap.size + 1, 1, none⟩ u) (R' := fun k => w.heap.size + 2 ≤ k ∧ k < (W3.setCell ⟨w.heap.size + 1, 1, none⟩ u).heap.size) (fun k hk => Below.heap_setCell _ _ _ _ (by show k ≠ w.heap.size + 1; omega)) (fun k hk => ⟨hk.1, by simpa [World.setCell] using hk.2⟩)
    rcases h3 with rfl | ⟨rfl, rfl⟩ | ⟨rfl, rfl⟩
    · obtain rfl := Q3.out rfl
      rcases (show k = 0 ∨ k = 1 by omega) with rfl | rfl
      · have E := Lib.hid (show opL (bs.drop p) = (0, ⟨0, ft, []⟩, 1 + fk) by rw [DR.out, opL_del FF.out])
        clear Q3
        go_wp2_with fail
        obtain ⟨hkx, hrx, hbx, hdx⟩ := op_end ⟨0, A1, c1, ft, none, 0, []⟩ HLT.out (K4.out (.slice A1 ft.length c1)) (R4.out _) rfl (B4S.out _) ⟨L4.out _, C3.out, M3.out, T8.out, .inl rfl, Nat.le_refl _, (show 0 ≤ maxLen by decide), by simp, by simp, by simp⟩ _ rfl
        refine bodyPost_ret (results_box rfl Tryz.underlying51 (by kernel_rfl) _ rfl hbx) rfl ?_
        exact ⟨⟨0, A1, c1, ft, none, 0, []⟩, _, by rw [E.out]; rfl, by rw [E.out]; rfl, hdx, hkx, hrx, fun _ => by rw [E.out]; simp only; omega⟩
      · obtain ⟨ge, gt, gk, hg⟩ : ∃ ge gt gk, fieldL (bs.drop (p + 1 + fk)) 0 4096 = (ge, gt, gk) := ⟨_, _, _, rfl⟩
        have h3 := field_three (bs.drop (p + 1 + fk)) 0 4096
        have hmem := field_mem (bs.drop (p + 1 + fk)) 0 4096
        rw [hg] at h3 hmem
        simp only at h3
        have V8 := Lib.hid (show ∀ x, x ∈ gt → x < 256 from fun x hx => R1.out.byte x (List.mem_of_mem_drop (hmem x hx)))
        have HT := Lib.hid fun (u : Value) => text_rd g ad c (p + 1 + fk) 0 4096 bs _ (R4.out u) (by decide) (by decide)
        rw [hg] at HT
        have hg2 : fieldL ((bs.drop (p + 1)).drop fk) 0 4096 = (ge, gt, gk) := by rw [List.drop_drop]; exact hg
        have E := Lib.hid (show opL (bs.drop p) = if ge ≠ 0 then (ge, noO, 0) else (0, ⟨1, ft, gt⟩, 1 + fk + gk) by rw [DR.out, opL_put FF.out hg2])
        clear hmem hg hg2 Q3
        go_wp2_with fail
        refine (show Calls Tryz.prog 94 #[.pointer (some ⟨g, 0, none⟩), .int .u64 0, .int .u64 4096] (W3.setCell ⟨w.heap.size + 1, 1, none⟩ (.slice A1 ft.length c1)) _ from HT.out _).mono ?_
        rintro e W5 ⟨A2, c2, q5, rfl, hl5, hc5, hm5, hk5, hr5, hq5⟩
        have b25 := (B4S.out (.slice A1 ft.length c1)).keep hk5 (by have := HLT.out; omega)
        have b45 := (Box.set (us := [.int .i64 1, .slice none 0 0, .slice none 0 0]) B43.out 1 (.slice A1 ft.length c1)).keep hk5 (by have := HLT.out; omega)
        have hsz5 : W3.heap.size ≤ W5.heap.size := by have := hk5.size; simpa [World.setCell] using this
        have K5 := Lib.hid ((K4.out (.slice A1 ft.length c1)).trans hk5 fun _ _ h => h)
        have R5 := Lib.hid hr5
        have B25 := Lib.hid b25
        have Q5 := Lib.hid hq5
        have L5 := Lib.hid ((L4.out (.slice A1 ft.length c1)).later (w' := W5) (R' := fun k => w.heap.size + 2 ≤ k ∧ k < W5.heap.size) (fun k hk => hk5.block k hk.2 (by have := HLT.out; omega)) fun k hk => ⟨hk.1, Nat.lt_of_lt_of_le hk.2 hk5.size⟩)
        have V5 := Lib.hid (hl5.later (R' := fun k => w.heap.size + 2 ≤ k ∧ k < W5.heap.size) (fun _ _ => rfl) fun k hk => ⟨Nat.le_trans HZ3.out (by have := hk.1; simpa [World.setCell] using this), hk.2⟩)
        have C5 := Lib.hid hc5
        have M5 := Lib.hid hm5
        clear p0 p1 p2 p3 p4 p5 s0 s1 s2 s3 s4 s5 hl5 hc5 hm5 hk5 hr5 hq5 hsz5 HT
        obtain ⟨p0, p1, p2, p3, p4, p5⟩ := b25.facts3
        obtain ⟨s0, s1, s2, s3, s4, s5⟩ := Box.facts3 (u0 := .int .i64 1) (u1 := .slice A1 ft.length c1) (u2 := .slice none 0 0) b45
        clear b25 b45
        have K6 := Lib.hid fun (u : Value) => K5.out.setCell (p := ⟨w.heap.size + 1, 2, none⟩) (.inl (Nat.le_succ _)) u
        have R6 := Lib.hid fun (u : Value) => R5.out.below (w' := W5.setCell ⟨w.heap.size + 1, 2, none⟩ u) (B := w.heap.size) ((Below.refl _ _).setCell (Nat.le_succ _) u) HLT.out
        have B6S := Lib.hid fun (u : Value) => B25.out.setOther (p := ⟨w.heap.size + 1, 2, none⟩) (by simp) u
        have L6 := Lib.hid fun (u : Value) => L5.out.later (w' := W5.setCell ⟨w.heap.size + 1, 2, none⟩ u) (R' := fun k => w.heap.size + 2 ≤ k ∧ k < (W5.setCell ⟨w.heap.size + 1, 2, none⟩ u).heap.size) (fun k hk => Below.heap_setCell _ _ _ _ (by show k ≠ w.heap.size + 1; omega)) (fun k hk => ⟨hk.1, by simpa [World.setCell] using hk.2⟩)
        have V6 := Lib.hid fun (u : Value) => V5.out.later (w' := W5.setCell ⟨w.heap.size + 1, 2, none⟩ u) (R' := fun k => w.heap.size + 2 ≤ k ∧ k < (W5.setCell ⟨w.heap.size + 1, 2, none⟩ u).heap.size) (fun k hk => Below.heap_setCell _ _ _ _ (by show k ≠ w.heap.size + 1; omega)) (fun k hk => ⟨hk.1, by simpa [World.setCell] using hk.2⟩)
        rcases h3 with rfl | ⟨rfl, rfl⟩ | ⟨rfl, rfl⟩
        · obtain rfl := Q5.out rfl
          have E2 := Lib.hid (show opL (bs.drop p) = (0, ⟨1, ft, gt⟩, 1 + fk + gk) by rw [E.out]; rfl)
          clear Q5
          go_wp2_with fail
          obtain ⟨hkx, hrx, hbx, hdx⟩ := op_end ⟨1, A1, c1, ft, A2, c2, gt⟩ HLT.out (K6.out (.slice A2 gt.length c2)) (R6.out _) rfl (B6S.out _) ⟨L6.out _, C3.out, M3.out, T8.out, V6.out _, C5.out, M5.out, V8.out, by simp, by simp⟩ _ rfl
          refine bodyPost_ret (results_box rfl Tryz.underlying51 (by kernel_rfl) _ rfl hbx) rfl ?_
          exact ⟨⟨1, A1, c1, ft, A2, c2, gt⟩, _, by rw [E2.out]; rfl, by rw [E2.out]; rfl, hdx, hkx, hrx, fun _ => by rw [E2.out]; simp only; omega⟩
        · have E2 := Lib.hid (show opL (bs.drop p) = (2, noO, 0) by rw [E.out]; rfl)
          go_wp2_with fail
          obtain ⟨hkx, hrx, hbx, hdx⟩ := op_end zD HLT.out (K6.out (.slice A2 0 c2)) (R6.out (.slice A2 0 c2)) rfl (B6S.out (.slice A2 0 c2)) (zD_ok _ _) _ rfl
          refine bodyPost_ret (results_box rfl Tryz.underlying51 (by kernel_rfl) _ rfl hbx) rfl ?_
          exact ⟨zD, _, by rw [E2.out]; rfl, by rw [E2.out]; rfl, hdx, hkx, hrx, fun h0 => by rw [E2.out] at h0; cases h0⟩
        · have E2 := Lib.hid (show opL (bs.drop p) = (4, noO, 0) by rw [E.out]; rfl)
          go_wp2_with fail
          obtain ⟨hkx, hrx, hbx, hdx⟩ := op_end zD HLT.out (K6.out (.slice A2 0 c2)) (R6.out (.slice A2 0 c2)) rfl (B6S.out (.slice A2 0 c2)) (zD_ok _ _) _ rfl
          refine bodyPost_ret (results_box rfl Tryz.underlying51 (by kernel_rfl) _ rfl hbx) rfl ?_
          exact ⟨zD, _, by rw [E2.out]; rfl, by rw [E2.out]; rfl, hdx, hkx, hrx, fun h0 => by rw [E2.out] at h0; cases h0⟩
    · have E := Lib.hid (show opL (bs.drop p) = (2, noO, 0) by rw [DR.out, opL_text (by omega) FF.out (by decide)])
      go_wp2_with fail
      obtain ⟨hkx, hrx, hbx, hdx⟩ := op_end zD HLT.out (K4.out (.slice A1 0 c1)) (R4.out (.slice A1 0 c1)) rfl (B4S.out (.slice A1 0 c1)) (zD_ok _ _) _ rfl
      refine bodyPost_ret (results_box rfl Tryz.underlying51 (by kernel_rfl) _ rfl hbx) rfl ?_
      exact ⟨zD, _, by rw [E.out]; rfl, by rw [E.out]; rfl, hdx, hkx, hrx, fun h0 => by rw [E.out] at h0; cases h0⟩
    · have E := Lib.hid (show opL (bs.drop p) = (4, noO, 0) by rw [DR.out, opL_text (by omega) FF.out (by decide)])
      go_wp2_with fail
      obtain ⟨hkx, hrx, hbx, hdx⟩ := op_end zD HLT.out (K4.out (.slice A1 0 c1)) (R4.out (.slice A1 0 c1)) rfl (B4S.out (.slice A1 0 c1)) (zD_ok _ _) _ rfl
      refine bodyPost_ret (results_box rfl Tryz.underlying51 (by kernel_rfl) _ rfl hbx) rfl ?_
      exact ⟨zD, _, by rw [E.out]; rfl, by rw [E.out]; rfl, hdx, hkx, hrx, fun h0 => by rw [E.out] at h0; cases h0⟩
  · rw [hk]
    have HK := Lib.hid hk
    clear hk
    have E := Lib.hid (show opL (bs.drop p) = (2, noO, 0) by rw [op_bad _ (by rw [HK.out]; decide), HK.out])
    go_wp2_with fail
    obtain ⟨hkx, hrx, hbx, hdx⟩ := op_end zD HLT.out (K2.out (.int .i64 0)) (R2.out (.int .i64 0)) rfl (B2S.out (.int .i64 0)) (zD_ok _ _) _ rfl
    refine bodyPost_ret (results_box rfl Tryz.underlying51 (by kernel_rfl) _ rfl hbx) rfl ?_
    exact ⟨zD, _, by rw [E.out]; rfl, by rw [E.out]; rfl, hdx, hkx, hrx, fun h0 => by rw [E.out] at h0; cases h0⟩
  · rw [hk]
    have HK := Lib.hid hk
    clear hk
    have E := Lib.hid (show opL (bs.drop p) = (4, noO, 0) by rw [op_bad _ (by rw [HK.out]; decide), HK.out])
    go_wp2_with fail
    obtain ⟨hkx, hrx, hbx, hdx⟩ := op_end zD HLT.out (K2.out (.int .i64 0)) (R2.out (.int .i64 0)) rfl (B2S.out (.int .i64 0)) (zD_ok _ _) _ rfl
    refine bodyPost_ret (results_box rfl Tryz.underlying51 (by kernel_rfl) _ rfl hbx) rfl ?_
    exact ⟨zD, _, by rw [E.out]; rfl, by rw [E.out]; rfl, hdx, hkx, hrx, fun h0 => by rw [E.out] at h0; cases h0⟩
end Go.Proofs.YtnbknihaefkllaaGreatDoor.Bt
/- What the document's own GetVar answers, for all bytes and all places. -/
namespace Go.Proofs.YtnbknihaefkllaaGreatDoor.Vt
set_option linter.unusedVariables false
open Go.RowKit Lift Vn

set_option maxRecDepth 100000 in
set_option maxHeartbeats 400000 in
theorem getv_any (ad : Addr) (cap at' : Nat) (bs : List Nat) (w : World) (hat : at' < bs.length) (hcap : bs.length ≤ cap) (hm : bs.length ≤ maxLen) (hb : ∀ (j c : Nat), bs[j]? = some c → c < 256)
    (hc : ∀ (j c : Nat), bs[j]? = some c → w.cell? (ad.add j) = some (.int .u8 (c : Int))) :
    Calls Tryz.prog 85 #[.slice (some ad) bs.length cap, .int .i64 at'] w fun e w' => e = ans at' (decAt bs at') ∧ w = w' := by
  unfold maxLen at hm
  have hb' := Lib.hid hb
  have hc' := Lib.hid hc
  clear hb hc
  have d1 : decide ((at' : Int) < 0) = false := by simp
  have d2 : decide (bs.length < at') = false := by simp; omega
  go_enter Tryz.func85, Tryz.ntmps85
  go_wp2_with fail
  go_loop [7, 8] (fun x i => ∃ k y : Nat, k ≤ 9 ∧ k ≤ bs.length - at' ∧ Hid (y < 2 ^ (7 * k)) ∧ i = .int .i64 k ∧ x = .int .u64 y ∧ Hid (decAt bs at' = dec (bs.drop (at' + k)) k y)) (fun _ i => 100 - (intOf i).toNat)
  case atStart => exact ⟨0, 0, by omega, by omega, Lib.hid (by simp), rfl, rfl, rfl⟩
  case round =>
    obtain ⟨k, y, hk9, hk, hy, rfl, rfl, hd⟩ := hrel
    by_cases hlt : k < bs.length - at'
    · obtain ⟨c, hcc⟩ : ∃ c : Nat, bs[at' + k]? = some c := ⟨_, List.getElem?_eq_getElem (by omega)⟩
      have c256 := hb'.out _ _ hcc
      have hcell : w.cell? (ad.add (at' + k)) = some (.int .u8 c) := hc'.out _ _ hcc
      have hstep : Hid (bs.drop (at' + k) = c :: bs.drop (at' + (k + 1))) := by
        apply Lib.hid
        rw [List.drop_eq_getElem?_toList_append]
        rw [hcc]; rfl
      clear hcc hb' hc' hat hcap d1 d2
      rcases Nat.lt_or_eq_of_le hk9 with k9 | k9
      · have t9 : ((k : Int) == 9) = false := by rw [beq_eq_false_iff_ne]; omega
        clear hk9
        by_cases k0 : 0 < k
        · by_cases c0 : c = 0
          · subst c0
            go_wp2_with fail
            go_ret3
            exact ⟨ans_bad (by rw [hd.out, hstep.out]; exact dec_bad (.inr ⟨k0, rfl⟩)), rfl⟩
          · have t0 : ((c : Int) == 0) = false := by rw [beq_eq_false_iff_ne]; omega
            by_cases c8 : c < 128
            · go_wp2_with fail
              go_ret3
              exact ⟨ans_ok (by rw [hd.out, hstep.out]; exact dec_ok (by omega) c8) (group_low' k y c k9 hy.out c256), rfl⟩
            · go_wp2_with fail
              go_round
              case rel => exact ⟨k + 1, put k y c, by omega, by omega, Lib.hid (put_lt _ _ _ hy.out), by go_num, by rw [group_low' k y c k9 hy.out c256], Lib.hid (by rw [hd.out, hstep.out]; exact dec_go (by omega) (by omega))⟩
              case measure => simp [intOf]; omega
        · by_cases c8 : c < 128
          · go_wp2_with fail
            go_ret3
            exact ⟨ans_ok (by rw [hd.out, hstep.out]; exact dec_ok (by omega) c8) (group_low' k y c k9 hy.out c256), rfl⟩
          · go_wp2_with fail
            go_round
            case rel => exact ⟨k + 1, put k y c, by omega, by omega, Lib.hid (put_lt _ _ _ hy.out), by go_num, by rw [group_low' k y c k9 hy.out c256], Lib.hid (by rw [hd.out, hstep.out]; exact dec_go (by omega) (by omega))⟩
            case measure => simp [intOf]; omega
      · have t9 : ((k : Int) == 9) = true := by rw [beq_iff_eq]; omega
        have k0 : 0 < k := by omega
        have K9 := Lib.hid k9
        clear k9
        by_cases c1 : 1 < c
        · have t1 : decide (1 < (c : Int)) = true := by simp; omega
          go_wp2_with fail
          go_ret3
          exact ⟨ans_bad (by rw [hd.out, hstep.out]; exact dec_bad (.inl ⟨K9.out, c1⟩)), rfl⟩
        · have t1 : decide (1 < (c : Int)) = false := by simp; omega
          by_cases c0 : c = 0
          · have t0 : ((c : Int) == 0) = true := by rw [beq_iff_eq]; omega
            have C0 := Lib.hid c0
            clear c0
            go_wp2_with fail
            go_ret3
            exact ⟨ans_bad (by rw [hd.out, hstep.out]; exact dec_bad (.inr ⟨k0, C0.out⟩)), rfl⟩
          · have t0 : ((c : Int) == 0) = false := by rw [beq_eq_false_iff_ne]; omega
            have c8 : c < 128 := by omega
            go_wp2_with fail
            go_ret3
            exact ⟨ans_ok (by rw [hd.out, hstep.out]; exact dec_ok (by omega) c8) (group_last' k y c K9.out hy.out (by omega)), rfl⟩
    · have hz : at' + k = bs.length := by omega
      have Hz := Lib.hid hz
      clear hz hb' hc'
      go_wp2_with fail
      go_ret3
      exact ⟨ans_short (by rw [hd.out, Hz.out]; simp [dec]), rfl⟩

theorem getv_end (A : Option Addr) (cap : Nat) (bs : List Nat) (w : World) (hcap : bs.length ≤ cap) (hm : bs.length ≤ maxLen) :
    Calls Tryz.prog 85 #[.slice A bs.length cap, .int .i64 bs.length] w fun e w' => e = ans bs.length (decAt bs bs.length) ∧ w = w' := by
  unfold maxLen at hm
  have hd : Hid (decAt bs bs.length = (0, 0, 4)) := Lib.hid (by simp [decAt, dec])
  have d1 : decide ((bs.length : Int) < 0) = false := by simp
  go_enter Tryz.func85, Tryz.ntmps85
  go_wp2_with fail
  refine wp_loop_rounds 1 ?_
  rw [rounds_succ]
  go_wp2_with fail
  go_ret3
  exact ⟨ans_short hd.out, rfl⟩

theorem getv_off (A : Option Addr) (cap : Nat) (n : Nat) (at' : Int) (w : World) (h : at' < 0 ∨ (n : Int) < at') :
    Calls Tryz.prog 85 #[.slice A n cap, .int .i64 at'] w fun e w' => e = .returned (.tuple #[.int .u64 0, .int .i64 0, .int .i64 1]) ∧ w = w' := by
  by_cases h0 : at' < 0
  · clear h
    go_enter Tryz.func85, Tryz.ntmps85
    go_wp2_with fail
    go_ret3
    exact ⟨rfl, rfl⟩
  · have h1 : (n : Int) < at' := by omega
    have h2 : decide (at' < 0) = false := by simp; omega
    clear h h0
    go_enter Tryz.func85, Tryz.ntmps85
    go_wp2_with fail
    go_ret3
    exact ⟨rfl, rfl⟩

theorem getv_calls (A : Option Addr) (cap B : Nat) (bs : List Nat) (at' : Int) (w : World) (hl : Lies w B A (bs.map vb)) (hcap : bs.length ≤ cap) (hm : bs.length ≤ maxLen) (hb : ∀ c, c ∈ bs → c < 256) :
    Calls Tryz.prog 85 #[.slice A bs.length cap, .int .i64 at'] w fun e w' => e = told (res bs at') ∧ w = w' := by
  by_cases h : at' < 0 ∨ (bs.length : Int) < at'
  · refine (getv_off A cap _ at' w h).mono ?_
    rintro e w' ⟨rfl, rfl⟩
    exact ⟨by simp [told, res, h], rfl⟩
  · obtain ⟨k, rfl⟩ : ∃ k : Nat, at' = (k : Int) := ⟨at'.toNat, by omega⟩
    have e1 : told (res bs (k : Int)) = ans k (decAt bs k) := by
      simp only [told, res, if_neg h, Int.toNat_natCast, ans]
    rw [e1]
    by_cases hk : k < bs.length
    · obtain ⟨ad, rfl, _, hc⟩ := hl.place (by simp; omega)
      exact getv_any ad cap k bs w hk hcap hm (fun j c hj => hb c (List.mem_of_getElem? hj)) (bytes_at hc)
    · obtain rfl : k = bs.length := by omega
      exact getv_end A cap bs w hcap hm
theorem ret_num {k : IntKind} {a b : Int} (h : a = b) : Ending.returned (.int k a) = .returned (.int k b) := by rw [h]
end Go.Proofs.YtnbknihaefkllaaGreatDoor.Vt
/-
  DERIVED: THE SHELF's CONTRACTS AT THIS DUMP, IN PLAIN WORDS (tools/lay-plain.mjs out of 'TryzShelf.lean', which tools/lay-shelf.mjs wrote): THE SAME DECLARATIONS UNDER THE SAME NAMES: 'import', 'namespace', 'open', 'def', 'theorem' AND NOTHING ELSE: no command of the shelf's: FOR A HAND-IN. Each laying: the table of numbers ('.._ren') and one theorem, a field a fact of the dump's own or the kernel's comparison; each contract: ONE APPLICATION.
-/
namespace Go.Proofs
open Go.Shelf
def Tryz.lays129_ren : Go.Shelf.Ren := ⟨fun | 129 => 102 | n => n, fun | 53 => 35 | 3 => 3 | 4 => 4 | 46 => 127 | 5 => 5 | 9 => 9 | n => n, fun | n => n⟩
theorem Tryz.lays129 : Go.Proofs.Lays.n129 Tryz.prog Tryz.lays129_ren := {
  mixed := by kernel_rfl
  f129 := Tryz.func102.trans (congrArg some (by kernel_rfl))
  t3 := Tryz.underlying3
  a3 := Tryz.isAgg3
  z3 := Tryz.sizeOf3
  v3 := Tryz.zeroValue3
  t4 := Tryz.underlying4
  a4 := Tryz.isAgg4
  z4 := Tryz.sizeOf4
  v4 := Tryz.zeroValue4
  t5 := Tryz.underlying5
  a5 := Tryz.isAgg5
  z5 := Tryz.sizeOf5
  v5 := Tryz.zeroValue5
  t9 := Tryz.underlying9
  a9 := Tryz.isAgg9
  z9 := Tryz.sizeOf9
  v9 := Tryz.zeroValue9
  t46 := Tryz.underlying127
  a46 := Tryz.isAgg127
  z46 := Tryz.sizeOf127
  v46 := Tryz.zeroValue127
  t53 := Tryz.underlying35
  a53 := Tryz.isAgg35
  z53 := Tryz.sizeOf35
  v53 := Tryz.zeroValue35 }
/-- bits.Len64: "Len64 returns the minimum number of bits required to represent x; the result is 0 for x == 0.": IT RETURNS 'Lib.bitLen x'; the world is as it was. ('h0', 'h1': x is a uint64.) (LAID: no walk: one application.) -/
theorem Tryz.bits_Len64 (x : Int) (w : World) (h0 : 0 ≤ x) (h1 : x ≤ 18446744073709551615) :
    Calls Tryz.prog 102 #[.int .u64 x] w fun e w' => e = .returned (.int .i64 (Lib.bitLen x.toNat)) ∧ w' = w := Any.bits_Len64 Tryz.lays129 x w h0 h1
def Tryz.laysM316_ren : Go.Shelf.Ren := ⟨fun | 316 => 72 | n => n, fun | 9 => 9 | 3 => 3 | 4 => 4 | 37 => 24 | 0 => 0 | 127 => 137 | 5 => 5 | n => n, fun | n => n⟩
theorem Tryz.laysM316 : Go.Proofs.LaysM.n316 Tryz.prog Tryz.laysM316_ren := {
  mixed := by kernel_rfl
  f316 := Tryz.func72.trans (congrArg some (by kernel_rfl))
  t0 := Tryz.underlying0
  a0 := Tryz.isAgg0
  z0 := Tryz.sizeOf0
  v0 := Tryz.zeroValue0
  t3 := Tryz.underlying3
  a3 := Tryz.isAgg3
  z3 := Tryz.sizeOf3
  v3 := Tryz.zeroValue3
  t4 := Tryz.underlying4
  a4 := Tryz.isAgg4
  z4 := Tryz.sizeOf4
  v4 := Tryz.zeroValue4
  t9 := Tryz.underlying9
  a9 := Tryz.isAgg9
  z9 := Tryz.sizeOf9
  v9 := Tryz.zeroValue9
  t37 := Tryz.underlying24
  a37 := Tryz.isAgg24
  z37 := Tryz.sizeOf24
  v37 := Tryz.zeroValue24
  t127 := Tryz.underlying137
  a127 := Tryz.isAgg137
  z127 := Tryz.sizeOf137
  v127 := Tryz.zeroValue137
  t5 := Tryz.underlying5
  a5 := Tryz.isAgg5
  z5 := Tryz.sizeOf5
  v5 := Tryz.zeroValue5
  i0 := by kernel_rfl
  i3 := by kernel_rfl
  i4 := by kernel_rfl
  i5 := by kernel_rfl
  i9 := by kernel_rfl
  i37 := by kernel_rfl
  i127 := by kernel_rfl }
open Go.RowKit in
/-- internal/stringslite.Clone (what strings.Clone calls): "Clone returns a fresh copy of s.": THE SAME BYTES. Of what was there nothing has turned (a new row is laid, and frozen, where s is not empty). (LAID: no walk: one application.) -/
theorem Tryz.stringslite_Clone (s : ByteArray) (w : World) (hlim : s.size ≤ 281474976710656) :
    Calls Tryz.prog 72 #[.string s] w fun e w' => e = .returned (.string s) ∧ Below w.heap.size w w' := Any.stringslite_Clone Tryz.laysM316 s w hlim
end Go.Proofs
/- What Put of package varint makes of bytes and a number. -/
namespace Go.Proofs.YtnbknihaefkllaaGreatDoor.Vt
set_option linter.unusedVariables false
open Go.RowKit Lift Vn

theorem bitLenAux_le : ∀ f x : Nat, Lib.bitLenAux f x ≤ f := by
  intro f
  induction f with
  | zero => intro x; simp [Lib.bitLenAux]
  | succ f ih => intro x; unfold Lib.bitLenAux; split; omega; have := ih (x / 2); omega
theorem bitLen_le (x : Nat) : Lib.bitLen x ≤ 64 := bitLenAux_le 64 x

theorem or_128 (y : Nat) : bits .or .u8 ((y : Int) % 256) 128 = ((y % 128 + 128 : Nat) : Int) := by
  have e : (y : Int) % 256 = ((y % 256 : Nat) : Int) := by omega
  have h := u8_or_nat (y % 256) 128 (Nat.mod_lt _ (by decide)) (by decide)
  rw [show ((128 : Nat) : Int) = 128 from rfl] at h
  rw [e, h]
  have : ∀ n : Fin 256, n.val ||| 128 = n.val % 128 + 128 := by decide +kernel
  have h2 := this ⟨y % 256, Nat.mod_lt _ (by decide)⟩
  simp only at h2
  rw [h2]
  omega

/-- Some number of bytes, from 1 to 10. -/
def Few (w : World) (e : Ending) (w' : World) : Prop := ∃ m : Nat, 1 ≤ m ∧ m ≤ 10 ∧ e = .returned (.int .i64 (m : Int)) ∧ w = w'
theorem length_any (x : Nat) (w : World) (h : x < 18446744073709551616) : Calls Tryz.prog 95 #[.int .u64 x] w (Few w) := by
  have hl := bitLen_le x
  have hc := Tryz.bits_Len64 (x : Int) w (by omega) (by omega)
  simp only [Int.toNat_natCast] at hc
  generalize Lib.bitLen x = k at hl hc
  have HC := Lib.hid hc
  clear hc h
  go_enter Tryz.func95, Tryz.ntmps95
  go_wp2_with fail
  refine HC.out.mono ?_; rintro e w' ⟨rfl, rfl⟩
  go_wp2_with fail
  go_ret
  exact ⟨max 1 ((k + 6) / 7), by omega, by omega, ret_num (by omega), rfl⟩

/-- Fresh bytes. -/
def zeros (n : Nat) : Array Value := madeCells #[.int .u8 0] n
theorem zeros_size (n : Nat) : (zeros n).size = n := by
  have := congrArg List.length (toList_madeCells_one (.int .u8 0) n)
  simpa [zeros] using this

/-- A slice of the call's own that holds the bytes bs. -/
def Made (B : Nat) (w : World) (bs : List Nat) (e : Ending) (w' : World) : Prop :=
  ∃ v, e = .returned v ∧ w'.ownsRow B 5 1 v bs.length (bs.map vb) ∧ Below B w w'

theorem own_spliced {w : World} {B g n m : Nat} {xs cur : List Value} (hB : B ≤ g) (h : w.heap[g]? = some (.cells (splice cur 0 xs).toArray 5 (0, 0))) (hx : xs.length = n) (hc : cur.length = n + m) (hm : n + m ≤ maxLen) :
    w.ownsRow B 5 1 (.slice (some ⟨g, 0, none⟩) n (n + m)) n xs := by
  refine ⟨by omega, .inr ⟨g, n + m, _, rfl, hB, h, by omega, hm, ?_, ?_⟩⟩
  · simp [splice]; omega
  · simp [splice, hx]

set_option maxRecDepth 100000 in
set_option maxHeartbeats 400000 in
theorem put_calls (A : Option Addr) (c x : Nat) (bs : List Nat) (w : World) (hl : Lies w w.heap.size A (bs.map vb)) (hm : bs.length ≤ 140737488355000) (hx : x < 18446744073709551616) :
    Calls Tryz.prog 86 #[.slice A bs.length c, .int .u64 x] w (Made w.heap.size w (bs ++ enc x)) := by
  have HL := Lib.hid hl
  have HX := Lib.hid hx
  clear hl hx
  go_enter Tryz.func86, Tryz.ntmps86
  go_wp2_with fail
  refine (length_any x _ HX.out).mono ?_; rintro e w' ⟨m, m1, m10, rfl, rfl⟩
  have hmk : ∀ W : World, Sem.run Tryz.prog (Instr.makeSlice 24 (.int .i64 (bs.length : Int)) (.int .i64 ((bs.length : Int) + (m : Int)))) W =
      .ok (.slice (some ⟨W.heap.size, 0, none⟩) bs.length (bs.length + m)) (W.alloc (.cells (zeros (bs.length + m)) 5)) := fun W => by
    obtain ⟨i, hi, hz, hs, hb⟩ := info_parts (P := Tryz.prog) (e := 5) (z := .int .u8 0) (size := 1) (bytes := 1) (by kernel_rfl)
    have h := run_make (P := Tryz.prog) W 24 5 i (.int .u8 0) Tryz.underlying24 hi hz .i64 .i64 (bs.length : Int) ((bs.length : Int) + (m : Int)) (by omega) (by omega) (by rw [hb]; omega) (by omega)
    rw [hs, Nat.mul_one] at h
    exact h
  have hz : (zeros (bs.length + m)).toList.length = bs.length + m := by have := zeros_size (bs.length + m); simpa using this
  have hnew : (w.alloc (.cells (zeros (bs.length + m)) 5)).heap[w.heap.size]? = some (.cells (zeros (bs.length + m)).toList.toArray 5 (0, 0)) := by rw [Array.toArray_toList]; exact heap_alloc_new w _
  obtain ⟨w2, hcp, hh2, hb2, hs2⟩ := run_copy_fresh (P := Tryz.prog) 24 24 3 5 Tryz.underlying24 (by kernel_rfl) w.heap.size bs.length (bs.length + m) bs.length c (zeros (bs.length + m)).toList 5 hnew
    (HL.out.below ((Below.refl _ _).alloc (Nat.le_refl _) _)) (by simp) (by rw [hz]; simp) (by intro v hv; simp at hv; obtain ⟨_, _, rfl⟩ := hv; rfl)
  have hown : w2.ownsRow w.heap.size 5 1 (.slice (some ⟨w.heap.size, 0, none⟩) bs.length (bs.length + m)) bs.length (bs.map vb) := own_spliced (Nat.le_refl _) hh2 (by simp) hz (by clear hz; unfold maxLen; omega)
  have hbw : Below w.heap.size w w2 := ((Below.refl _ _).alloc (Nat.le_refl _) _).trans hb2
  have hsz : w.heap.size ≤ w2.heap.size := hbw.size
  have HB := Lib.hid hbw
  clear hz hnew hh2 hb2 hs2 hbw
  go_wp2_with fail
  go_loopw [1, 5] (fun u o wr => ∃ (f y : Nat) (pre : List Nat), u = .int .u64 y ∧ wr.ownsRow w.heap.size 5 1 o (bs.length + pre.length) ((bs ++ pre).map vb) ∧ Hid (enc x = pre ++ encN f y) ∧ pre.length ≤ 9 ∧ Hid (pre.length + f = 9) ∧ Hid (y < 2 * 128 ^ f) ∧
      Hid (Below w.heap.size w wr) ∧ w.heap.size ≤ wr.heap.size) (fun u _ _ => (intOf u).toNat)
  case atStart => exact ⟨9, x, [], rfl, by simpa using hown, Lib.hid rfl, by simp, Lib.hid rfl, Lib.hid (by have := HX.out; omega), HB, hsz⟩
  case round =>
    obtain ⟨f, y, pre, rfl, hown, he, hp9, hf, hy, hb, hsz⟩ := hrel
    have hlen : bs.length + pre.length + 1 ≤ maxLen ∧ (bs.length + pre.length + 1) * 1 ≤ 140737488355328 := by unfold maxLen; omega
    by_cases h128 : 128 ≤ y
    · obtain ⟨v', w1, hrun, hown1, hb1, hs1⟩ := run_append_one (P := Tryz.prog) (u := .int .u8 (bits .or .u8 ((y : Int) % 256) 128)) 24 24 5 (.int .u8 0) 1 Tryz.underlying24 (by kernel_rfl) rfl rfl hown hlen.1 hlen.2 hsz
      have HO := Lib.hid hown1
      have HB1 := Lib.hid hb1
      have HR := Lib.hid hrun
      clear hown hown1 hlen hb1 hrun
      go_wp2_with (at_builtin; refine wpList_append_run rfl _ _ 24 rfl rfl rfl HR.out ?_)
      go_roundw
      case rel =>
        obtain ⟨f, rfl⟩ : ∃ k, f = k + 1 := by
          rcases f with _ | f
          · have := hy.out
            omega
          · exact ⟨f, rfl⟩
        have h9 := hf.out
        refine ⟨f, y / 128, pre ++ [y % 128 + 128], by go_num, ?_, Lib.hid ?_, by simp; omega, Lib.hid (by simp; omega), Lib.hid ?_, Lib.hid (hb.out.trans HB1.out), by omega⟩
        · have := HO.out
          rw [or_128 y] at this
          simp only [List.map_append, List.map_cons, List.map_nil, List.length_append, List.length_cons, List.length_nil, Nat.zero_add, ← Nat.add_assoc, ← List.append_assoc] at this ⊢
          exact this
        · rw [he.out]
          conv => lhs; rw [encN]
          rw [if_neg (by omega)]
          simp
        · have := hy.out
          rw [Nat.pow_succ] at this
          omega
      case measure => simp [intOf]; omega
    · obtain ⟨v', w1, hrun, hown1, hb1, hs1⟩ := run_append_one (P := Tryz.prog) (u := vb y) 24 24 5 (.int .u8 0) 1 Tryz.underlying24 (by kernel_rfl) rfl rfl hown hlen.1 hlen.2 hsz
      have HO := Lib.hid hown1
      have HB1 := Lib.hid hb1
      have HR := Lib.hid hrun
      have h1 : y < 128 := by omega
      clear hown hown1 hlen hb1 h128 hrun
      go_wp2_with (at_builtin; refine wpList_append_run rfl _ _ 24 rfl rfl rfl HR.out ?_)
      go_ret
      refine ⟨v', rfl, ?_, hb.out.trans HB1.out⟩
      have ee : encN f y = [y] := by
        rcases f with _ | f
        · rfl
        · simp [encN, h1]
      rw [he.out, ee]
      have := HO.out
      simpa [Nat.add_assoc] using this
end Go.Proofs.YtnbknihaefkllaaGreatDoor.Vt
/- Which numbers fit; numbers, texts and operations, appended to a slice of the call's own. -/
namespace Go.Proofs.YtnbknihaefkllaaGreatDoor.Bt
set_option linter.unusedVariables false
set_option linter.unusedSimpArgs false
open Go.RowKit Lift Ik Vn

set_option maxRecDepth 100000 in
theorem fits_any (s n : Nat) (w : World) (hs : s < 18446744073709551616) (hn : 1 ≤ n ∧ n ≤ 100) :
    Calls Tryz.prog 50 #[.int .u64 (s : Int), .int .u64 (n : Int)] w fun e w' => e = .returned (.bool (fits s n)) ∧ w = w' := by
  by_cases h1 : 1 ≤ s
  · have d1 : decide ((1 : Int) ≤ (s : Int)) = true := by simp; omega
    by_cases h2 : s + n ≤ 72057594037927936
    · have d2 : decide ((s : Int) ≤ 72057594037927935 - ((n : Int) - 1)) = true := by simp; omega
      have e : fits s n = true := by simp [fits]; omega
      rw [e]
      clear e
      go_enter Tryz.func50, Tryz.ntmps50
      go_wp2_with fail
      go_ret
      exact ⟨rfl, rfl⟩
    · have d2 : decide ((s : Int) ≤ 72057594037927935 - ((n : Int) - 1)) = false := by simp; omega
      have e : fits s n = false := by simp [fits]; omega
      rw [e]
      clear e
      go_enter Tryz.func50, Tryz.ntmps50
      go_wp2_with fail
      go_ret
      exact ⟨rfl, rfl⟩
  · have d1 : decide ((1 : Int) ≤ (s : Int)) = false := by simp; omega
    have e : fits s n = false := by simp [fits]; omega
    rw [e]
    clear e
    go_enter Tryz.func50, Tryz.ntmps50
    go_wp2_with fail
    go_ret
    exact ⟨rfl, rfl⟩
set_option maxRecDepth 100000 in
theorem rfits_any (s n : Nat) (w : World) (hs : s < 18446744073709551616) (hn : 1 ≤ n ∧ n ≤ 100) :
    Calls Tryz.prog 58 #[.int .u64 (s : Int), .int .i64 (n : Int)] w fun e w' => e = .returned (.bool (fits s n)) ∧ w = w' := by
  by_cases h1 : 1 ≤ s
  · have d1 : decide ((1 : Int) ≤ (s : Int)) = true := by simp; omega
    by_cases h3 : s ≤ 72057594037927935
    · have d3 : decide ((s : Int) ≤ 72057594037927935) = true := by simp; omega
      by_cases h2 : s + n ≤ 72057594037927936
      · have d2 : decide ((n : Int) - 1 ≤ 72057594037927935 - (s : Int)) = true := by simp; omega
        have e : fits s n = true := by simp [fits]; omega
        rw [e]
        clear e
        go_enter Tryz.func58, Tryz.ntmps58
        go_wp2_with fail
        go_ret
        exact ⟨rfl, rfl⟩
      · have d2 : decide ((n : Int) - 1 ≤ 72057594037927935 - (s : Int)) = false := by simp; omega
        have e : fits s n = false := by simp [fits]; omega
        rw [e]
        clear e
        go_enter Tryz.func58, Tryz.ntmps58
        go_wp2_with fail
        go_ret
        exact ⟨rfl, rfl⟩
    · have d3 : decide ((s : Int) ≤ 72057594037927935) = false := by simp; omega
      have e : fits s n = false := by simp [fits]; omega
      rw [e]
      clear e
      go_enter Tryz.func58, Tryz.ntmps58
      go_wp2_with fail
      go_ret
      exact ⟨rfl, rfl⟩
  · have d1 : decide ((1 : Int) ≤ (s : Int)) = false := by simp; omega
    have e : fits s n = false := by simp [fits]; omega
    rw [e]
    clear e
    go_enter Tryz.func58, Tryz.ntmps58
    go_wp2_with fail
    go_ret
    exact ⟨rfl, rfl⟩

set_option maxRecDepth 100000 in
set_option maxHeartbeats 400000 in
theorem number_any (base x n : Nat) (v : Value) (xs : List Nat) (w : World) (h : w.ownsRow base 5 1 v xs.length (xs.map vb)) (hbase : base ≤ w.heap.size) (hm : xs.length ≤ 140737488354000) (hx : x < 18446744073709551616) (hn : n ≤ 8) :
    Calls Tryz.prog 51 #[v, .int .u64 (x : Int), .int .i64 (n : Int)] w (Made base w (xs ++ low x n)) := by
  have HO := Lib.hid h
  have HZ := Lib.hid hbase
  clear h hbase
  go_enter Tryz.func51, Tryz.ntmps51
  go_wp2_with fail
  go_loopw [0, 9] (fun o i wr => ∃ j : Nat, j ≤ n ∧ i = .int .i64 j ∧ wr.ownsRow base 5 1 o (xs.length + j) ((xs ++ low x j).map vb) ∧ Hid (Below base w wr)) (fun _ i _ => 10 - (intOf i).toNat)
  case atStart => exact ⟨0, by omega, rfl, by simpa [low] using HO.out, Lib.hid (Below.refl _ _)⟩
  case round =>
    obtain ⟨j, hj, rfl, hown, hb⟩ := hrel
    by_cases hlt : j < n
    · obtain ⟨v', w1, hrun, hown1, hb1, hs1⟩ := run_append_one (P := Tryz.prog) (u := .int .u8 ((x : Int) / 2 ^ (8 * j) % 256)) 24 24 5 (.int .u8 0) 1 Tryz.underlying24 (by kernel_rfl) rfl rfl hown (by unfold maxLen; omega) (by omega) (Nat.le_trans HZ.out hb.out.size)
      rw [low_next _ _ _ _ rfl] at hown1
      have HO1 := Lib.hid hown1
      have HB3 := Lib.hid (hb.out.trans hb1)
      have HR1 := Lib.hid hrun
      clear hown hown1 hb1 hrun
      go_wp2_with (at_builtin; refine wpList_append_run rfl _ _ 24 rfl rfl rfl HR1.out ?_)
      go_roundw
      case rel => exact ⟨j + 1, by omega, by go_num, by rw [← Nat.add_assoc]; exact HO1.out, HB3⟩
      case measure => simp [intOf]; omega
    · obtain rfl : j = n := by omega
      have HO1 := Lib.hid hown
      clear hown
      go_wp2_with fail
      go_ret
      refine ⟨_, rfl, ?_, hb.out⟩
      rw [List.length_append, low_length]
      exact HO1.out

/-- Bytes onto a slice of the call's own. -/
theorem append_bytes {w : World} {base B c : Nat} {v : Value} {A : Option Addr} {xs ts : List Nat} (hown : w.ownsRow base 5 1 v xs.length (xs.map vb)) (hl : Lies w B A (ts.map vb)) (hn : xs.length + ts.length ≤ 140737488355000) (hbase : base ≤ w.heap.size) :
    ∃ v' w', Sem.run Tryz.prog (Builtin.append_ #[24, 24] 24 #[v, .slice A ts.length c]) w = .ok v' w' ∧ w'.ownsRow base 5 1 v' (xs ++ ts).length ((xs ++ ts).map vb) ∧ Onto v v' w w' := by
  obtain ⟨v', w', h1, h2, h3⟩ := run_append_onto (P := Tryz.prog) (m := ts.length) (c := c) 24 24 5 (.int .u8 0) 1 1 Tryz.underlying24 (by kernel_rfl) rfl (by decide)
      (fun u hu => by simp at hu; obtain ⟨_, _, rfl⟩ := hu; rfl) hown hl (by simp) (by unfold maxLen; omega) (by omega) hbase
  exact ⟨v', w', h1, by rw [List.length_append, List.map_append]; exact h2, h3⟩
/-- A slice of the call's own, with more bytes. -/
def Grew (base : Nat) (v : Value) (w : World) (bs : List Nat) (e : Ending) (w' : World) : Prop := ∃ v', e = .returned v' ∧ w'.ownsRow base 5 1 v' bs.length (bs.map vb) ∧ Onto v v' w w'
theorem made_of {B : Nat} {w w' : World} {bs : List Nat} {e : Ending} (h : Vt.Made B w bs e w') : Made B w bs e w' := h
theorem enc_len10 (x : Nat) : (enc x).length ≤ 10 := (enc_len x).2
set_option maxRecDepth 100000 in
set_option maxHeartbeats 400000 in
theorem text_any (base c : Nat) (v : Value) (A : Option Addr) (xs ts : List Nat) (w : World) (h : w.ownsRow base 5 1 v xs.length (xs.map vb)) (hl : Lies w base A (ts.map vb)) (hbase : base ≤ w.heap.size) (hm : xs.length ≤ 140737488000000) (ht : ts.length ≤ 5000) :
    Calls Tryz.prog 74 #[v, .slice A ts.length c] w (Grew base v w (xs ++ text ts)) := by
  have HO := Lib.hid h
  have HL := Lib.hid hl
  have HZ := Lib.hid hbase
  have hp := Vt.put_calls none 0 ts.length [] w (.inl rfl) (by simp) (by omega)
  have HP := Lib.hid hp
  have he := enc_len10 ts.length
  clear h hl hbase hp
  go_enter Tryz.func74, Tryz.ntmps74
  go_wp2_with fail
  refine HP.out.mono ?_
  intro e W1 hm1
  obtain ⟨A1, c1, rfl, _, _, hl1, hb1⟩ := (made_of hm1).parts
  rw [List.nil_append] at hl1 ⊢
  obtain ⟨v2, W2, hr2, hown2, hon2⟩ := append_bytes (w := W1) (c := c1) (own_later HO.out hb1) hl1 (by omega) (Nat.le_trans HZ.out hb1.size)
  have H2 := Lib.hid (Onto.pre hb1 hon2)
  have HB2 := Lib.hid (H2.out.below HO.out HZ.out)
  obtain ⟨v3, W3, hr3, hown3, hon3⟩ := append_bytes (c := c) hown2 (HL.out.below HB2.out) (by rw [List.length_append]; omega) (Nat.le_trans HZ.out HB2.out.size)
  have H3 := Lib.hid (H2.out.trans hon3)
  have HO3 := Lib.hid hown3
  have HR2 := Lib.hid hr2
  have HR3 := Lib.hid hr3
  clear hm1 hl1 hb1 hr2 hown2 hon2 hr3 hown3 hon3
  go_wp2_with (at_builtin; first | refine wpList_append_run rfl _ _ 24 rfl rfl rfl HR2.out ?_ | refine wpList_append_run rfl _ _ 24 rfl rfl rfl HR3.out ?_)
  go_ret
  refine ⟨_, rfl, ?_, H3.out⟩
  unfold text
  rw [← List.append_assoc]
  exact HO3.out
end Go.Proofs.YtnbknihaefkllaaGreatDoor.Bt
/- The reader of package batch: the head of a batch. -/
namespace Go.Proofs.YtnbknihaefkllaaGreatDoor.Bt
set_option linter.unusedVariables false
set_option linter.unusedSimpArgs false
open Go.RowKit Lift Ik Vn

/-- The head of a batch: the error, Seq, the number of operations. -/
def headL (bs : List Nat) : Nat × Nat × Nat :=
  if bs.length < 12 then (4, 0, 0) else if headN bs < 1 ∨ 100 < headN bs ∨ fits (headS bs) (headN bs) = false then (2, 0, 0) else (0, headS bs, headN bs)
theorem head_lt {bs : List Nat} (h : ∀ x, x ∈ bs → x < 256) : headS bs < 18446744073709551616 ∧ headN bs < 4294967296 := by
  unfold headS headN
  have h1 := num_lt (bs.take 8) fun c hc => h c (List.mem_of_mem_take hc)
  have h2 := num_lt ((bs.drop 8).take 4) fun c hc => h c (List.mem_of_mem_drop (List.mem_of_mem_take hc))
  have p1 : 256 ^ (bs.take 8).length ≤ 256 ^ 8 := Nat.pow_le_pow_right (by decide) (by rw [List.length_take]; omega)
  have p2 : 256 ^ ((bs.drop 8).take 4).length ≤ 256 ^ 4 := Nat.pow_le_pow_right (by decide) (by rw [List.length_take]; omega)
  exact ⟨by omega, by omega⟩

set_option maxRecDepth 100000 in
set_option maxHeartbeats 400000 in
theorem head_short (g : Nat) (A : Option Addr) (n c : Nat) (w : World) (h : Rd w g A n c 0) (hn : n < 12) :
    Calls Tryz.prog (83) #[.pointer (some ⟨g, 0, none⟩)] w fun e w' => e = .returned (.tuple #[.int .u64 0, .int .u64 0, .int .i64 4]) ∧ Below w.heap.size w w' := by
  have HP := Lib.hid (part_short g A n c 0 12 w h (by omega) (by omega) (by omega) (by omega))
  clear h
  go_enter Tryz.func83, Tryz.ntmps83
  go_wp2_with fail
  refine (show Calls Tryz.prog 91 #[.pointer (some ⟨g, 0, none⟩), .int .i64 12] w _ from HP.out).mono ?_
  rintro e W1 ⟨rfl, hb1, _⟩
  have HB := Lib.hid hb1
  clear hb1 HP
  go_wp2_with fail
  go_returns
  exact ⟨rfl, HB.out⟩

set_option maxRecDepth 100000 in
set_option maxHeartbeats 800000 in
theorem head_rd (g : Nat) (ad : Addr) (c : Nat) (bs : List Nat) (w : World) (h : Rdr w g ad c bs 0) (h12 : 12 ≤ bs.length) :
    Calls Tryz.prog (83) #[.pointer (some ⟨g, 0, none⟩)] w fun e w' => e = .returned (.tuple #[.int .u64 ((headL bs).2.1 : Int), .int .u64 ((headL bs).2.2 : Int), .int .i64 ((headL bs).1 : Int)]) ∧ Keep (· = g) w w' ∧ Rdr w' g ad c bs 12 := by
  have H := Lib.hid h
  have hcap := h.cap
  have hmax := h.max
  unfold maxLen at hmax
  have HP := Lib.hid (part_ok g ad bs c 0 12 w h.rd h.lies h.cap h.max h.le h.small (by omega))
  obtain ⟨l1, l2⟩ := head_lt h.byte
  have E0 := Lib.hid (show headL bs = if headN bs < 1 ∨ 100 < headN bs ∨ fits (headS bs) (headN bs) = false then (2, 0, 0) else (0, headS bs, headN bs) by unfold headL; rw [if_neg (by omega)])
  clear h
  go_enter Tryz.func83, Tryz.ntmps83
  go_wp2_with fail
  refine (show Calls Tryz.prog 91 #[.pointer (some ⟨g, 0, none⟩), .int .i64 12] w _ from HP.out).mono ?_
  rintro e W1 ⟨ad', rfl, hl1, hk1, hr1⟩
  rw [List.drop_zero] at hl1
  have HK := Lib.hid hk1
  have HR := Lib.hid (H.out.at' hk1 hr1 (by omega))
  have q1 : ∀ W : World, Sem.run Tryz.prog (Instr.slice 24 (.slice (some ad') 12 c) none (some (.int .i64 8)) none) W = .ok (.slice (some ad') 8 c) W := fun W => by go_simp; intro h; omega
  have q2 : ∀ W : World, Sem.run Tryz.prog (Instr.slice 24 (.slice (some ad') 12 c) (some (.int .i64 8)) none none) W = .ok (.slice (some ⟨ad'.block, ad'.off + 8, none⟩) 4 (c - 8)) W := fun W => by go_simp; intro h; omega
  have len8 : (bs.take 8).length = 8 := by rw [List.length_take]; omega
  have len4 : ((bs.drop 8).take 4).length = 4 := by rw [List.length_take, List.length_drop]; omega
  have e12 : bs.take 12 = bs.take 8 ++ (bs.drop 8).take 4 := by rw [← List.take_add]
  have L8 : Lies W1 g (some ad') ((bs.take 8).map vb) := hl1.front (by rw [e12, List.map_append]; exact List.prefix_append _ _)
  have L4 : Lies W1 g (some ⟨ad'.block, ad'.off + 8, none⟩) (((bs.drop 8).take 4).map vb) := by
    obtain ⟨_, hA, hab, hcell⟩ := hl1.place (by rw [List.length_map, List.length_take]; omega)
    cases hA
    refine .inr ⟨_, rfl, hab, fun j u hj => ?_⟩
    rw [show (⟨ad'.block, ad'.off + 8, none⟩ : Addr) = ad'.add 8 from rfl, add_add]
    refine hcell _ _ ?_
    rw [e12, List.map_append, List.getElem?_append_right (by rw [List.length_map, len8]; omega), List.length_map, len8]
    rw [← hj]
    congr 1
    omega
  have n8 := fun n => numb_any ad' c g (bs.take 8) (W1.drewN n) (L8.below (Joins.below_draws _ _ _)) (by omega) (by intro h0; rw [h0] at len8; simp at len8) (by omega) (fun x hx => H.out.byte x (List.mem_of_mem_take hx))
  have n4 := fun n => numb_any ⟨ad'.block, ad'.off + 8, none⟩ (c - 8) g ((bs.drop 8).take 4) (W1.drewN n) (L4.below (Joins.below_draws _ _ _)) (by omega) (by intro h0; rw [h0] at len4; simp at len4) (by omega) (fun x hx => H.out.byte x (List.mem_of_mem_drop (List.mem_of_mem_take hx)))
  rw [len8, show num (bs.take 8) = headS bs from rfl] at n8
  rw [len4, show num ((bs.drop 8).take 4) = headN bs from rfl] at n4
  have N8 := Lib.hid n8
  have N4 := Lib.hid n4
  generalize headS bs = s at N8 l1 E0
  generalize headN bs = n at N4 l2 E0
  have NN := Lib.hid (show ∀ (a : Addr) (k cc m : Nat), ((a = ad' ∧ k = 8 ∧ cc = c) ∨ (a = ⟨ad'.block, ad'.off + 8, none⟩ ∧ k = 4 ∧ cc = c - 8)) → Calls Tryz.prog 92 #[.slice (some a) k cc] (W1.drewN m) (fun e w' => e = .returned (.int .u64 ((if k = 8 then s else n : Nat) : Int)) ∧ w' = W1.drewN m) from by
    rintro a k cc m (⟨rfl, rfl, rfl⟩ | ⟨rfl, rfl, rfl⟩)
    · exact (N8.out m).mono fun e w' hh => ⟨hh.1, hh.2.symm⟩
    · exact (N4.out m).mono fun e w' hh => ⟨hh.1, hh.2.symm⟩)
  clear hl1 hk1 hr1 len8 len4 e12 L8 L4 n8 n4 HP N8 N4
  go_wp2_with fail
  go_quiet (first | (go_at_call 92; refine Calls.quiet_of_same (NN.out _ _ _ _ ?_); first | exact .inl ⟨rfl, rfl, rfl⟩ | exact .inr ⟨rfl, rfl, rfl⟩))
  have HK2 := Lib.hid fun m => (HK.out.trans (below_keep (S := (· = g)) (Joins.below_draws _ W1 m)) fun _ _ h => h)
  have HR2 := Lib.hid fun m => HR.out.at' (w' := W1.drewN m) (below_keep (Joins.below_draws _ W1 m)) HR.out.rd (by omega)
  by_cases h1 : n < 1
  · have E := Lib.hid (show headL bs = (2, 0, 0) by rw [E0.out, if_pos (.inl h1)])
    have d1 : decide ((n : Int) < 1) = true := by simp; omega
    clear h1
    go_wp2_with fail
    go_returns
    exact ⟨by rw [E.out]; rfl, HK2.out _, HR2.out _⟩
  · have d1 : decide ((n : Int) < 1) = false := by simp; omega
    by_cases h2 : 100 < n
    · have E := Lib.hid (show headL bs = (2, 0, 0) by rw [E0.out, if_pos (.inr (.inl h2))])
      have d2 : decide ((100 : Int) < (n : Int)) = true := by simp; omega
      clear h1 h2
      go_wp2_with fail
      go_returns
      exact ⟨by rw [E.out]; rfl, HK2.out _, HR2.out _⟩
    · have d2 : decide ((100 : Int) < (n : Int)) = false := by simp; omega
      have HF := Lib.hid fun W => fits_any s n W l1 ⟨by omega, by omega⟩
      cases hf : fits s n
      · have E := Lib.hid (show headL bs = (2, 0, 0) by rw [E0.out, if_pos (.inr (.inr hf))])
        rw [hf] at HF
        clear h1 h2 hf
        go_wp2_with (go_at_call 50; refine (HF.out _).mono ?_; rintro e w' ⟨rfl, rfl⟩)
        go_returns
        exact ⟨by rw [E.out]; rfl, HK2.out _, HR2.out _⟩
      · have E := Lib.hid (show headL bs = (0, s, n) by rw [E0.out, if_neg (by rw [hf]; intro q; rcases q with q | q | q; omega; omega; cases q)])
        rw [hf] at HF
        clear h1 h2 hf
        go_wp2_with (go_at_call 50; refine (HF.out _).mono ?_; rintro e w' ⟨rfl, rfl⟩)
        go_returns
        exact ⟨by rw [E.out]; rfl, HK2.out _, HR2.out _⟩
end Go.Proofs.YtnbknihaefkllaaGreatDoor.Bt
/- The reader of package batch: a whole batch, and what Read answers. -/
namespace Go.Proofs.YtnbknihaefkllaaGreatDoor.Bt
set_option linter.unusedVariables false
set_option linter.unusedSimpArgs false
open Go.RowKit Lift Ik Vn

theorem cellsL_set {L : List D} {j : Nat} (d : D) (h : j < L.length) :
    (((cellsL L).set (j * 3) (.int .i64 d.kind)).set (j * 3 + 1) (.slice d.ka d.key.length d.kc)).set (j * 3 + 2) (.slice d.va d.val.length d.vc) = cellsL (L.set j d) := by
  induction L generalizing j with
  | nil => simp at h
  | cons e L ih =>
    have hc : cellsL (e :: L) = e.cells ++ cellsL L := rfl
    cases j with
    | zero =>
      rw [hc]
      show _ = d.cells ++ cellsL L
      simp [D.cells]
    | succ j =>
      have hl : e.cells.length = 3 := rfl
      rw [hc, List.set_append_right _ _ (by omega), List.set_append_right _ _ (by omega), List.set_append_right _ _ (by omega)]
      rw [show (j + 1) * 3 - e.cells.length = j * 3 by omega, show (j + 1) * 3 + 1 - e.cells.length = j * 3 + 1 by omega, show (j + 1) * 3 + 2 - e.cells.length = j * 3 + 2 by omega, ih (by simpa using h)]
      rfl
abbrev zV : Value := .agg #[.int .i64 0, .slice none 0 0, .slice none 0 0]
theorem zeros_ops (n : Nat) : (madeCells zV.cells (n * 3)).toList = cellsL (List.replicate n zD) := by
  apply List.ext_getElem?
  intro j
  by_cases hj : j < n * 3
  · have hr : (List.replicate n zD)[j / 3]? = some zD := by rw [List.getElem?_replicate]; rw [if_pos (by omega)]
    have h1 := cellsL_at hr (j % 3) (Nat.mod_lt _ (by decide))
    rw [show j / 3 * 3 + j % 3 = j by omega] at h1
    rw [h1]
    have h2 : (madeCells zV.cells (n * 3)).toList[j]? = some (zV.cells[j % 3]!) := by
      unfold madeCells
      rw [Array.toList_map, Array.toList_range, List.getElem?_map, List.getElem?_range hj]
      rfl
    rw [h2]
    have h3 : j % 3 = 0 ∨ j % 3 = 1 ∨ j % 3 = 2 := by omega
    rcases h3 with h3 | h3 | h3 <;> rw [h3] <;> rfl
  · rw [List.getElem?_eq_none, List.getElem?_eq_none]
    · rw [cellsL_length]; simp; omega
    · simp [madeCells]; omega
theorem make_ops (n : Nat) (h : n ≤ 1000) (W : World) : Sem.run Tryz.prog (Instr.makeSlice 36 (.int .u64 (n : Int)) (.int .u64 (n : Int))) W =
    .ok (.slice (some ⟨W.heap.size, 0, none⟩) n n) (W.alloc (.cells (cellsL (List.replicate n zD)).toArray 51)) := by
  obtain ⟨i, hi, hz, hs, hb⟩ := info_parts (P := Tryz.prog) (e := 51) (z := zV) (size := 3) (bytes := 56) (by kernel_rfl)
  have h := run_make (P := Tryz.prog) W 36 51 i zV Tryz.underlying36 hi hz .u64 .u64 (n : Int) (n : Int) (by omega) (by omega) (by rw [hb]; omega) (by omega)
  rw [hs, Int.toNat_natCast] at h
  rw [h, ← zeros_ops, Array.toArray_toList]

/-- What a batch is told as: the error, Seq, the operations, the place behind them. -/
def batchL (bs : List Nat) : Nat × Nat × List O × Nat :=
  if (headL bs).1 ≠ 0 then ((headL bs).1, 0, [], 0)
  else if (opsL (headN bs) bs 12 []).1 ≠ 0 then ((opsL (headN bs) bs 12 []).1, 0, [], 0)
  else (0, headS bs, (opsL (headN bs) bs 12 []).2.1, (opsL (headN bs) bs 12 []).2.2)
theorem read_batch (bs : List Nat) : readB bs = if (batchL bs).1 ≠ 0 then ((batchL bs).1, 0, []) else if (batchL bs).2.2.2 ≠ bs.length then (2, 0, []) else (0, (batchL bs).2.1, (batchL bs).2.2.1) := by
  unfold readB batchL headL
  by_cases h1 : bs.length < 12
  · simp [h1]
  · by_cases h2 : headN bs < 1 ∨ 100 < headN bs ∨ fits (headS bs) (headN bs) = false
    · simp only [if_neg h1, if_pos h2]
      simp
    · simp only [if_neg h1, if_neg h2]
      by_cases h3 : (opsL (headN bs) bs 12 []).1 ≠ 0
      · simp [h3]
      · simp [h3]
theorem opL_three (l : List Nat) : (opL l).1 = 0 ∨ (opL l).1 = 2 ∨ (opL l).1 = 4 := by
  cases l with
  | nil => simp [opL]
  | cons c r =>
    have h1 := field_three r 1 256
    have h2 := field_three (r.drop (fieldL r 1 256).2.2) 0 4096
    simp only [opL]
    split
    · simp
    · split
      · rcases h1 with h | h | h
        · contradiction
        · exact .inr (.inl h.1)
        · exact .inr (.inr h.1)
      · split
        · simp
        · split
          · rcases h2 with h | h | h
            · contradiction
            · exact .inr (.inl h.1)
            · exact .inr (.inr h.1)
          · simp
theorem opL_ok {l : List Nat} (h : (opL l).1 ≠ 0) : (opL l).2.1 = noO := by
  cases l with
  | nil => rfl
  | cons c r =>
    simp only [opL] at h ⊢
    split
    · rfl
    · rename_i h1
      rw [if_neg h1] at h
      split
      · rfl
      · rename_i h2
        rw [if_neg h2] at h
        split
        · rename_i h3; rw [if_pos h3] at h; simp at h
        · rename_i h3
          rw [if_neg h3] at h
          split
          · rfl
          · rename_i h4; rw [if_neg h4] at h; simp at h

/-- The two cells of a batch laid into the box of the result. -/
theorem batch_end {w W : World} {g : Nat} {us : List Value} (u0 u1 : Value) (hk : Keep (· = g) w W) (hu : us.length = 2) (hb : Box W w.heap.size 38 us) :
    ∀ W', W' = (W.setCell ⟨w.heap.size, 0, none⟩ u0).setCell ⟨w.heap.size, 1, none⟩ u1 → Keep (· = g) w W' ∧ Box W' w.heap.size 38 [u0, u1] ∧ Keep (· = w.heap.size) W W' := by
  rintro W' rfl
  have h1 : Keep (· = w.heap.size) W ((W.setCell ⟨w.heap.size, 0, none⟩ u0).setCell ⟨w.heap.size, 1, none⟩ u1) :=
    ((Keep.refl (· = w.heap.size) W).setCell (p := ⟨w.heap.size, 0, none⟩) (.inr rfl) _).setCell (p := ⟨w.heap.size, 1, none⟩) (.inr rfl) _
  refine ⟨hk.trans h1 fun i hi he => by omega, ?_, h1⟩
  match us, hu with
  | [u0', u1'], _ => exact (hb.set 0 _).set 1 _

set_option maxRecDepth 100000 in
set_option maxHeartbeats 400000 in
theorem batch_short (g : Nat) (A : Option Addr) (n c : Nat) (w : World) (h : Rd w g A n c 0) (hn : n < 12) :
    Calls Tryz.prog (66) #[.pointer (some ⟨g, 0, none⟩)] w fun e w' => e = .returned (.tuple #[.agg #[.int .u64 0, .slice none 0 0], .int .i64 4]) ∧ Below w.heap.size w w' := by
  have hb0 := Joins.below_alloc1 w (.cells #[.int .u64 0, .slice none 0 0] 38)
  have b0 := Box.new w 38 [.int .u64 0, .slice none 0 0]
  have hp := head_short g A n c (w.alloc (.cells #[.int .u64 0, .slice none 0 0] 38)) (h.below hb0 h.lt) hn
  clear h
  go_enter Tryz.func66, Tryz.ntmps66
  go_wp2_with fail
  refine hp.mono ?_
  rintro e W1 ⟨rfl, hb1⟩
  have hb2 := hb0.trans (hb1.mono hb0.size)
  have b1 := b0.below hb1 (by simp)
  obtain ⟨p0, p1, f0, f1⟩ := b1.facts2
  have HB := Lib.hid hb2
  have B1 := Lib.hid b1
  clear hb0 b0 hp hb1 hb2 b1
  go_wp2_with fail
  obtain ⟨hkx, hbx, _⟩ := batch_end (g := w.heap.size + 1) (.int .u64 0) (.slice none 0 0) (below_keep HB.out) rfl B1.out _ rfl
  refine bodyPost_ret (results_box rfl Tryz.underlying38 (by kernel_rfl) _ rfl hbx) rfl ?_
  exact ⟨rfl, hkx.below (Nat.le_refl _) fun k hk => by omega⟩

theorem set_replicate (pre : List D) (d : D) (m : Nat) : (pre ++ List.replicate (m + 1) zD).set pre.length d = (pre ++ [d]) ++ List.replicate m zD := by
  rw [List.set_append_right _ _ (Nat.le_refl _), Nat.sub_self, List.replicate_succ]
  simp
theorem ops_step {n p : Nat} {bs : List Nat} {acc : List O} {fuel : Nat} (h : opsL n bs 12 [] = opsL (fuel + 1) bs p acc) : opsL n bs 12 [] = if (opL (bs.drop p)).1 ≠ 0 then ((opL (bs.drop p)).1, [], 0) else opsL fuel bs (p + (opL (bs.drop p)).2.2) (acc ++ [(opL (bs.drop p)).2.1]) := h
/-- A slice of operations in blocks of a kind. -/
structure OpsP (w : World) (R : Nat → Prop) (A : Option Addr) (c : Nat) (L : List D) : Prop where
  lies : LiesP w R A (cellsL L)
  len : L.length ≤ c
  cap : c ≤ maxLen
  ok : ∀ d, d ∈ L → d.Ok w R
theorem OpsP.later {w w' : World} {R R' : Nat → Prop} {A : Option Addr} {c : Nat} {L : List D} (h : OpsP w R A c L) (hk : ∀ k, R k → w'.heap[k]? = w.heap[k]?) (hR : ∀ k, R k → R' k) : OpsP w' R' A c L :=
  ⟨h.lies.later hk hR, h.len, h.cap, fun d hd => (h.ok d hd).later hk hR⟩
theorem OpsP.ops {w : World} {R : Nat → Prop} {A : Option Addr} {c B : Nat} {L : List D} (h : OpsP w R A c L) (hR : ∀ k, R k → k < B) : Ops w B A c L :=
  ⟨h.lies.lies hR, h.len, h.cap, fun d hd => (h.ok d hd).later (fun _ _ => rfl) hR⟩
theorem OpsP.zero (w : World) (R : Nat → Prop) : OpsP w R none 0 [] := ⟨.inl rfl, Nat.le_refl _, by decide, fun _ h => by simp at h⟩
theorem liesP_block {w : World} {g : Nat} {R : Nat → Prop} {cs : Array Value} {T : TypeId} {fr : Nat × Nat} (h : w.heap[g]? = some (.cells cs T fr)) (hR : R g) : LiesP w R (some ⟨g, 0, none⟩) cs.toList := by
  rcases lies_block h (Nat.lt_succ_self g) with h0 | ⟨ad, ha, _, hc⟩
  · exact .inl h0
  · cases ha; exact .inr ⟨_, rfl, hR, hc⟩
/-- What a batch is told as. -/
def Batched (w : World) (g : Nat) (ad : Addr) (c : Nat) (bs : List Nat) (e : Ending) (w' : World) : Prop :=
  ∃ (A2 : Option Addr) (c2 : Nat) (L : List D) (q : Nat), e = .returned (.tuple #[.agg #[.int .u64 ((batchL bs).2.1 : Int), .slice A2 L.length c2], .int .i64 ((batchL bs).1 : Int)]) ∧ opsO L = (batchL bs).2.2.1 ∧ OpsP w' (fun k => w.heap.size ≤ k ∧ k < w'.heap.size) A2 c2 L ∧
    Keep (· = g) w w' ∧ Rdr w' g ad c bs q ∧ ((batchL bs).1 = 0 → q = (batchL bs).2.2.2)
theorem batched_bad {w w' : World} {g c q er : Nat} {ad : Addr} {bs : List Nat} (h : batchL bs = (er, 0, [], 0)) (h0 : er ≠ 0) (hk : Keep (· = g) w w') (hr : Rdr w' g ad c bs q) :
    Batched w g ad c bs (.returned (.tuple #[.agg #[.int .u64 0, .slice none 0 0], .int .i64 (er : Int)])) w' :=
  ⟨none, 0, [], q, by rw [h]; rfl, by rw [h]; rfl, OpsP.zero _ _, hk, hr, fun h1 => by rw [h] at h1; exact absurd h1 h0⟩

set_option maxRecDepth 100000 in
set_option maxHeartbeats 800000 in
theorem batch_rd (g : Nat) (ad : Addr) (c : Nat) (bs : List Nat) (w : World) (h : Rdr w g ad c bs 0) (h12 : 12 ≤ bs.length) :
    Calls Tryz.prog (66) #[.pointer (some ⟨g, 0, none⟩)] w (Batched w g ad c bs) := by
  have hb0 := Joins.below_alloc1 w (.cells #[.int .u64 0, .slice none 0 0] 38)
  have b0 := Box.new w 38 [.int .u64 0, .slice none 0 0]
  have hz0 : (w.alloc (.cells #[.int .u64 0, .slice none 0 0] 38)).heap.size = w.heap.size + 1 := by simp
  have hglt := h.rd.lt
  have hp := head_rd g ad c bs (w.alloc (.cells #[.int .u64 0, .slice none 0 0] 38)) (h.below hb0 hglt) h12
  have hk0 : Keep (· = g) w (w.alloc (.cells #[.int .u64 0, .slice none 0 0] 38)) := below_keep hb0
  have H8 := Lib.hid h.byte
  clear h
  go_enter Tryz.func66, Tryz.ntmps66
  go_wp2_with fail
  generalize w.alloc (.cells #[.int .u64 0, .slice none 0 0] 38) = w0 at hb0 b0 hz0 hp hk0 ⊢
  refine hp.mono ?_
  rintro e W1 ⟨rfl, hk1, hr1⟩
  have b1 := b0.keep hk1 (by omega)
  have hz1 : w.heap.size < W1.heap.size := by have := hk1.size; omega
  have K1 := Lib.hid (hk0.trans hk1 fun _ _ h => h)
  have R1 := Lib.hid hr1
  have B1 := Lib.hid b1
  have HZ1 := Lib.hid hz1
  have HLT := Lib.hid hglt
  obtain ⟨p0, p1, f0, f1⟩ := b1.facts2
  clear hb0 b0 hz0 hp hk0 hk1 hr1 b1 hz1 hglt
  by_cases hh : headN bs < 1 ∨ 100 < headN bs ∨ fits (headS bs) (headN bs) = false
  · have e1 : headL bs = (2, 0, 0) := by unfold headL; rw [if_neg (by omega), if_pos hh]
    have E := Lib.hid (show batchL bs = (2, 0, [], 0) by unfold batchL; rw [e1]; rfl)
    rw [e1]
    clear hh e1
    go_wp2_with fail
    obtain ⟨hkx, hbx, hk3⟩ := batch_end (g := g) (.int .u64 0) (.slice none 0 0) K1.out rfl B1.out _ rfl
    refine bodyPost_ret (results_box rfl Tryz.underlying38 (by kernel_rfl) _ rfl hbx) rfl ?_
    exact batched_bad E.out (by decide) hkx (R1.out.below (hk3.below (B := w.heap.size) (Nat.le_of_lt HZ1.out) fun k hk => by omega) HLT.out)
  · have e1 : headL bs = (0, headS bs, headN bs) := by unfold headL; rw [if_neg (by omega), if_neg hh]
    have e2 : batchL bs = if (opsL (headN bs) bs 12 []).1 ≠ 0 then ((opsL (headN bs) bs 12 []).1, 0, [], 0) else (0, headS bs, (opsL (headN bs) bs 12 []).2.1, (opsL (headN bs) bs 12 []).2.2) := by
      unfold batchL; rw [e1]; rfl
    rw [e1]
    have hn : 1 ≤ headN bs ∧ headN bs ≤ 100 := by omega
    generalize headN bs = n at e2 hn ⊢
    generalize headS bs = s at e2 ⊢
    have E2 := Lib.hid e2
    have hmk := fun W => make_ops n (by omega) W
    clear hh e1 e2
    go_wp2_with fail
    have hbA := Joins.below_alloc1 W1 (.cells (cellsL (List.replicate n zD)).toArray 51)
    have bG := Box.new W1 51 (cellsL (List.replicate n zD))
    have hzG : (W1.alloc (.cells (cellsL (List.replicate n zD)).toArray 51)).heap.size = W1.heap.size + 1 := by simp
    have b1 := B1.out.below hbA HZ1.out
    have r1 := R1.out.below hbA (Nat.lt_trans HLT.out HZ1.out)
    have k1 := K1.out.trans (below_keep (S := (· = g)) hbA) fun _ _ h => h
    generalize W1.alloc (.cells (cellsL (List.replicate n zD)).toArray 51) = W2 at hbA bG hzG b1 r1 k1 ⊢
    have B2 := Lib.hid b1
    have BG := Lib.hid bG
    have R2 := Lib.hid r1
    have K2 := Lib.hid k1
    have HZ2 := Lib.hid hzG
    clear hbA bG hzG b1 r1 k1 p0 p1 f0 f1 hmk
    go_loopw [23] (fun i wr => ∃ (j q : Nat) (pre : List D), i = .int .i64 j ∧ pre.length = j ∧ j ≤ n ∧ Hid (Box wr W1.heap.size 51 (cellsL (pre ++ List.replicate (n - j) zD))) ∧ Hid (∀ d, d ∈ pre → d.Ok wr (fun k => W1.heap.size < k ∧ k < wr.heap.size)) ∧ Hid (Keep (· = g) w wr) ∧ Hid (Rdr wr g ad c bs q) ∧
        Hid (Box wr w.heap.size 38 [.int .u64 0, .slice none 0 0]) ∧ Hid (opsL n bs 12 [] = opsL (n - j) bs q (opsO pre))) (fun i _ => n + 1 - (intOf i).toNat)
    case atStart => exact ⟨0, 12, [], rfl, rfl, by omega, BG, Lib.hid (fun d hd => by simp at hd), K2, R2, B2, Lib.hid rfl⟩
    case round =>
      obtain ⟨j, q, pre, rfl, hpl, hj, bg, hok, hk, hr, hb, he⟩ := hrel
      by_cases hlt : j < n
      · have hop := Lib.hid (op_rd g ad c q bs wr hr.out)
        have HPL := Lib.hid hpl
        clear hpl
        go_wp2_with fail
        refine hop.out.mono ?_
        rintro e W3 ⟨d, q3, rfl, hdo, hdk, hk3, hr3, hq3⟩
        have hbg := bg.out.lt
        have bg3 := bg.out.keep hk3 (by have := HLT.out; have := HZ1.out; omega)
        have b3 := hb.out.keep hk3 (by have := HLT.out; omega)
        have k3 := hk.out.trans hk3 fun _ _ h => h
        have hcl : (cellsL (pre ++ List.replicate (n - j) zD)).length = n * 3 := by rw [cellsL_length, List.length_append, List.length_replicate, HPL.out]; congr 1; omega
        obtain ⟨c0, hc0⟩ : ∃ u, W3.cell? ⟨W1.heap.size, j * 3, none⟩ = some u := ⟨_, (bg3.cell _).trans (List.getElem?_eq_getElem (by rw [hcl]; omega))⟩
        obtain ⟨c1, hc1⟩ : ∃ u, W3.cell? ⟨W1.heap.size, j * 3 + 1, none⟩ = some u := ⟨_, (bg3.cell _).trans (List.getElem?_eq_getElem (by rw [hcl]; omega))⟩
        obtain ⟨c2, hc2⟩ : ∃ u, W3.cell? ⟨W1.heap.size, j * 3 + 2, none⟩ = some u := ⟨_, (bg3.cell _).trans (List.getElem?_eq_getElem (by rw [hcl]; omega))⟩
        have z0 := bg3.free (j * 3)
        have z1 := bg3.free (j * 3 + 1)
        have z2 := bg3.free (j * 3 + 2)
        have hne : w.heap.size ≠ W1.heap.size := by have := HZ1.out; omega
        have hgne : g < W1.heap.size := Nat.lt_trans HLT.out HZ1.out
        have hst : Keep (· = W1.heap.size) W3 (((W3.setCell ⟨W1.heap.size, j * 3, none⟩ (.int .i64 d.kind)).setCell ⟨W1.heap.size, j * 3 + 1, none⟩ (.slice d.ka d.key.length d.kc)).setCell ⟨W1.heap.size, j * 3 + 2, none⟩ (.slice d.va d.val.length d.vc)) :=
          (((Keep.refl (· = W1.heap.size) W3).setCell (p := ⟨W1.heap.size, j * 3, none⟩) (.inr rfl) _).setCell (p := ⟨W1.heap.size, j * 3 + 1, none⟩) (.inr rfl) _).setCell (p := ⟨W1.heap.size, j * 3 + 2, none⟩) (.inr rfl) _
        have b4 := b3.keep hst hne
        have bg4 := ((bg3.set (j * 3) (.int .i64 d.kind)).set (j * 3 + 1) (.slice d.ka d.key.length d.kc)).set (j * 3 + 2) (.slice d.va d.val.length d.vc)
        rw [cellsL_set d (by rw [List.length_append, List.length_replicate, HPL.out]; omega), show n - j = (n - (j + 1)) + 1 by omega, ← HPL.out, set_replicate, HPL.out] at bg4
        have k4 := k3.trans hst fun i hi he => by have := HZ1.out; omega
        have r4 := hr3.below (hst.below (B := W1.heap.size) (Nat.le_of_lt bg3.lt) fun k hk => by omega) hgne
        have ok4 : ∀ x, x ∈ pre ++ [d] → x.Ok (((W3.setCell ⟨W1.heap.size, j * 3, none⟩ (.int .i64 d.kind)).setCell ⟨W1.heap.size, j * 3 + 1, none⟩ (.slice d.ka d.key.length d.kc)).setCell ⟨W1.heap.size, j * 3 + 2, none⟩ (.slice d.va d.val.length d.vc))
            (fun k => W1.heap.size < k ∧ k < (((W3.setCell ⟨W1.heap.size, j * 3, none⟩ (.int .i64 d.kind)).setCell ⟨W1.heap.size, j * 3 + 1, none⟩ (.slice d.ka d.key.length d.kc)).setCell ⟨W1.heap.size, j * 3 + 2, none⟩ (.slice d.va d.val.length d.vc)).heap.size) := by
          intro x hx
          rcases List.mem_append.1 hx with h1 | h1
          · refine (hok.out x h1).later (fun k hk2 => (hst.block k (Nat.lt_of_lt_of_le hk2.2 hk3.size) (by omega)).trans (hk3.block k hk2.2 (by omega))) fun k hk2 => ⟨hk2.1, Nat.lt_of_lt_of_le hk2.2 (Nat.le_trans hk3.size hst.size)⟩
          · simp at h1
            subst h1
            exact hdk.later (fun k hk2 => hst.block k hk2.2 (by omega)) fun k hk2 => ⟨by omega, Nat.lt_of_lt_of_le hk2.2 hst.size⟩
        have HE := Lib.hid (show (opL (bs.drop q)).1 = 0 → opsL n bs 12 [] = opsL (n - (j + 1)) bs q3 (opsO (pre ++ [d])) from fun h0 => by
          rw [he.out, show n - j = (n - (j + 1)) + 1 by omega]
          show (if (opL (bs.drop q)).1 ≠ 0 then ((opL (bs.drop q)).1, [], 0) else opsL (n - (j + 1)) bs (q + (opL (bs.drop q)).2.2) (opsO pre ++ [(opL (bs.drop q)).2.1])) = _
          rw [if_neg (by simpa using h0), hq3 h0, ← hdo]
          simp [opsO])
        have B4 := Lib.hid b4
        have BG4 := Lib.hid bg4
        have K4 := Lib.hid k4
        have R4 := Lib.hid r4
        have OK4 := Lib.hid ok4
        obtain ⟨p0, p1, f0, f1⟩ := b3.facts2
        obtain ⟨p0', p1', f0', f1'⟩ := b4.facts2
        clear hbg bg3 b3 k3 hcl hst b4 bg4 k4 r4 ok4 hdk hk3 hr3 hq3 hne hgne hok hk hr hb bg
        rcases opL_three (bs.drop q) with hoe | hoe | hoe
        · have HE2 := Lib.hid (HE.out hoe)
          rw [hoe]
          clear hoe HE he hdo
          go_wp2_with fail
          go_roundw
          case rel => exact ⟨j + 1, q3, pre ++ [d], by go_num, by rw [List.length_append, HPL.out]; rfl, by omega, BG4, OK4, K4, R4, B4, HE2⟩
          case measure => simp [intOf]; omega
        · have E3 := Lib.hid (show batchL bs = (2, 0, [], 0) by
            have : opsL n bs 12 [] = (2, [], 0) := by
              rw [he.out, show n - j = (n - (j + 1)) + 1 by omega]
              show (if (opL (bs.drop q)).1 ≠ 0 then ((opL (bs.drop q)).1, [], 0) else _) = _
              rw [hoe]; rfl
            rw [E2.out, this]; rfl)
          rw [hoe]
          clear hoe
          go_wp2_with fail
          obtain ⟨hkx, hbx, hk5⟩ := batch_end (g := g) (.int .u64 0) (.slice none 0 0) K4.out rfl B4.out _ rfl
          refine bodyPost_ret (results_box rfl Tryz.underlying38 (by kernel_rfl) _ rfl hbx) rfl ?_
          exact batched_bad E3.out (by decide) hkx (R4.out.below (hk5.below (B := w.heap.size) (Nat.le_of_lt B4.out.lt) fun k hk => by omega) HLT.out)
        · have E3 := Lib.hid (show batchL bs = (4, 0, [], 0) by
            have : opsL n bs 12 [] = (4, [], 0) := by
              rw [he.out, show n - j = (n - (j + 1)) + 1 by omega]
              show (if (opL (bs.drop q)).1 ≠ 0 then ((opL (bs.drop q)).1, [], 0) else _) = _
              rw [hoe]; rfl
            rw [E2.out, this]; rfl)
          rw [hoe]
          clear hoe
          go_wp2_with fail
          obtain ⟨hkx, hbx, hk5⟩ := batch_end (g := g) (.int .u64 0) (.slice none 0 0) K4.out rfl B4.out _ rfl
          refine bodyPost_ret (results_box rfl Tryz.underlying38 (by kernel_rfl) _ rfl hbx) rfl ?_
          exact batched_bad E3.out (by decide) hkx (R4.out.below (hk5.below (B := w.heap.size) (Nat.le_of_lt B4.out.lt) fun k hk => by omega) HLT.out)
      · obtain rfl : j = n := by omega
        have HPL := Lib.hid hpl
        have E3 := Lib.hid (show batchL bs = (0, s, opsO pre, q) by rw [E2.out, he.out, Nat.sub_self]; rfl)
        obtain ⟨p0, p1, f0, f1⟩ := hb.out.facts2
        clear hpl
        go_wp2_with fail
        obtain ⟨hkx, hbx, hk5⟩ := batch_end (g := g) (.int .u64 s) (.slice (some ⟨W1.heap.size, 0, none⟩) j j) hk.out rfl hb.out _ rfl
        refine bodyPost_ret (results_box rfl Tryz.underlying38 (by kernel_rfl) _ rfl hbx) rfl ?_
        have hg5 := bg.out.keep hk5 (by have := HZ1.out; omega)
        rw [Nat.sub_self, List.replicate_zero, List.append_nil] at hg5
        have hsz5 := hk5.size
        refine ⟨some ⟨W1.heap.size, 0, none⟩, j, pre, q, by rw [E3.out, HPL.out]; rfl, by rw [E3.out], ⟨liesP_block hg5 ⟨Nat.le_of_lt HZ1.out, hg5.lt⟩, by rw [HPL.out]; exact Nat.le_refl _, by unfold maxLen; omega, fun d hd => (hok.out d hd).later (fun k hk2 => hk5.block k hk2.2 (by have := HZ1.out; omega)) fun k hk2 => ⟨by have := HZ1.out; omega, Nat.lt_of_lt_of_le hk2.2 hsz5⟩⟩, hkx,
          hr.out.below (hk5.below (B := w.heap.size) (Nat.le_of_lt hb.out.lt) fun k hk => by omega) HLT.out, fun _ => by rw [E3.out]⟩
end Go.Proofs.YtnbknihaefkllaaGreatDoor.Bt
/- Slices of the call's own: what becomes of them where other blocks are written; bytes, and one byte, appended onto them. -/
namespace Go.Proofs.YtnbknihaefkllaaGreatDoor.Lift
set_option linter.unusedVariables false
set_option linter.unusedSimpArgs false
open Go.RowKit Ik
section
variable {w w' : World} {base base' size size' n n' : Nat} {e e' : TypeId} {v v' : Value} {xs xs' : List Value} {S : Nat → Prop}
theorem own_kept (h : w.ownsRow base e size v n xs) (hk : Keep S w w') (hS : ∀ k, v.ownBlock = some k → ¬ S k) : w'.ownsRow base e size v n xs := by
  refine ⟨h.1, ?_⟩
  rcases h.2 with h0 | ⟨g, cap, cur, rfl, hB, hh, r⟩
  · exact .inl h0
  · exact .inr ⟨g, cap, cur, rfl, hB, (hk.block g (Array.getElem?_eq_some_iff.1 hh).1 (hS g rfl)).trans hh, r⟩
theorem own_lower (h : w.ownsRow base e size v n xs) (hb : base' ≤ base) : w.ownsRow base' e size v n xs := by
  refine ⟨h.1, ?_⟩
  rcases h.2 with h0 | ⟨g, cap, cur, hv, hB, r⟩
  · exact .inl h0
  · exact .inr ⟨g, cap, cur, hv, Nat.le_trans hb hB, r⟩
/-- Slices with elements of two types lie in two blocks. -/
theorem own_two (h : w.ownsRow base e size v n xs) (h' : w.ownsRow base' e' size' v' n' xs') (hT : e ≠ e') {k : Nat} (hk : v.ownBlock = some k) : ¬ v'.ownBlock = some k := by
  intro hk'
  rcases h.2 with ⟨rfl, _⟩ | ⟨g, cap, cur, rfl, _, hh, _⟩
  · simp [Value.ownBlock] at hk
  · rcases h'.2 with ⟨rfl, _⟩ | ⟨g', cap', cur', rfl, _, hh', _⟩
    · simp [Value.ownBlock] at hk'
    · simp [Value.ownBlock] at hk hk'
      subst hk; subst hk'
      rw [hh] at hh'
      injection hh' with hh'
      injection hh' with _ h2
      exact hT h2
theorem own_none (w : World) (base size : Nat) (e : TypeId) : w.ownsRow base e size (.slice none 0 0) 0 [] := World.ownsRow_nil _ _ _ _
end
theorem Onto.at_block {v v' : Value} {w w' : World} (h : Onto v v' w w') {k : Nat} (hk : k < w.heap.size) (hn : ¬ v.ownBlock = some k) : w'.heap[k]? = w.heap[k]? := h.keep.block k hk hn
theorem Onto.off {v v' : Value} {w w' : World} (h : Onto v v' w w') {k : Nat} (hk : k < w.heap.size) (hn : ¬ v.ownBlock = some k) : ¬ v'.ownBlock = some k := fun he => (h.place k he).elim hn (by omega)
/-- A slice outside of the block of v. -/
def Off (v : Value) (w : World) (A : Option Addr) (xs : List Value) : Prop := LiesP w (fun k => k < w.heap.size ∧ ¬ v.ownBlock = some k) A xs
section
variable {w w' : World} {v v' : Value} {A : Option Addr} {xs : List Value}
theorem Off.lies (h : Off v w A xs) : Lies w w.heap.size A xs := LiesP.lies h fun k hk => hk.1
theorem Off.onto (h : Off v w A xs) (ho : Onto v v' w w') : Off v' w' A xs :=
  LiesP.later h (fun k hk => ho.at_block hk.1 hk.2) fun k hk => ⟨Nat.lt_of_lt_of_le hk.1 ho.keep.size, ho.off hk.1 hk.2⟩
theorem Off.old {base n size : Nat} {e : TypeId} {xs' : List Value} (h : Lies w base A xs) (hb : base ≤ w.heap.size) (ho : w.ownsRow base e size v n xs') : Off v w A xs :=
  Lies.p h fun k hk => ⟨by omega, fun he => by have := (ho.lt k he).1; omega⟩
theorem Off.later (h : Off v w A xs) (hb : Below w.heap.size w w') : Off v w' A xs :=
  LiesP.later h (fun k hk => hb.block k hk.1) fun k hk => ⟨Nat.lt_of_lt_of_le hk.1 hb.size, hk.2⟩
theorem Off.front {ys : List Value} (h : Off v w A xs) (hp : ys <+: xs) : Off v w A ys := by
  rcases h with rfl | ⟨ad, ha, hb, hc⟩
  · exact .inl (List.prefix_nil.1 hp)
  · refine .inr ⟨ad, ha, hb, fun j u hj => hc j u ?_⟩
    obtain ⟨t, rfl⟩ := hp
    rw [List.getElem?_append_left (List.getElem?_eq_some_iff.1 hj).1]
    exact hj
end
/-- Bytes onto a slice of the call's own. -/
theorem append_bytes {w : World} {base B c : Nat} {v : Value} {A : Option Addr} {xs ts : List Nat} (hown : w.ownsRow base 5 1 v xs.length (xs.map vb)) (hl : Lies w B A (ts.map vb)) (hn : xs.length + ts.length ≤ 140737488355000) (hbase : base ≤ w.heap.size) :
    ∃ v' w', Sem.run Tryz.prog (Builtin.append_ #[24, 24] 24 #[v, .slice A ts.length c]) w = .ok v' w' ∧ w'.ownsRow base 5 1 v' (xs ++ ts).length ((xs ++ ts).map vb) ∧ Onto v v' w w' := by
  obtain ⟨v', w', h1, h2, h3⟩ := run_append_onto (P := Tryz.prog) (m := ts.length) (c := c) 24 24 5 (.int .u8 0) 1 1 Tryz.underlying24 (by kernel_rfl) rfl (by decide)
      (fun u hu => by simp at hu; obtain ⟨_, _, rfl⟩ := hu; rfl) hown hl (by simp) (by unfold maxLen; omega) (by omega) hbase
  exact ⟨v', w', h1, by rw [List.length_append, List.map_append]; exact h2, h3⟩
/-- One byte onto a slice of the call's own. -/
theorem append_byte {w : World} {base : Nat} {v : Value} {xs : List Nat} (x : Nat) (hown : w.ownsRow base 5 1 v xs.length (xs.map vb)) (hn : xs.length ≤ 140737488354000) (hbase : base ≤ w.heap.size) :
    ∃ v' w', Sem.run Tryz.prog (Builtin.append_ #[24, 24] 24 #[v, .slice (some ⟨w.heap.size, 0, none⟩) 1 1]) (w.alloc (.cells #[vb x] 5)) = .ok v' w' ∧ w'.ownsRow base 5 1 v' (xs ++ [x]).length ((xs ++ [x]).map vb) ∧ Onto v v' w w' := by
  have hb := Joins.below_alloc1 w (.cells #[vb x] 5)
  have hl : Lies (w.alloc (.cells #[vb x] 5)) (w.heap.size + 1) (some ⟨w.heap.size, 0, none⟩) ([x].map vb) :=
    lies_block (cs := #[vb x]) (heap_alloc_new w _) (Nat.lt_succ_self _)
  obtain ⟨v', w', h1, h2, h3⟩ := append_bytes (c := 1) (own_later hown hb) hl (by simp; omega) (Nat.le_trans hbase hb.size)
  exact ⟨v', w', h1, h2, Onto.pre hb h3⟩
/-- A slice of the call's own, with more bytes. -/
def Grew (base : Nat) (v : Value) (w : World) (bs : List Nat) (e : Ending) (w' : World) : Prop := ∃ v', e = .returned v' ∧ w'.ownsRow base 5 1 v' bs.length (bs.map vb) ∧ Onto v v' w w'
end Go.Proofs.YtnbknihaefkllaaGreatDoor.Lift
/- Batches in memory: a slice of structs of a number and of a slice of operations. -/
namespace Go.Proofs.YtnbknihaefkllaaGreatDoor.Wl
set_option linter.unusedVariables false
set_option linter.unusedSimpArgs false
open Go.ChangeShapes Go.WideShapes Go.ChangeAt Go.RowKit Lift Ik Bt

/-- A batch as it lies: its number, and address, capacity and operations of its slice. -/
structure G where
  s : Nat
  a : Option Addr
  c : Nat
  l : List D
abbrev G.v (g : G) : Value := .agg #[.int .u64 (g.s : Int), .slice g.a g.l.length g.c]
def G.cells (g : G) : List Value := [.int .u64 (g.s : Int), .slice g.a g.l.length g.c]
def cellsG (L : List G) : List Value := L.flatMap G.cells
/-- A batch as it is told. -/
def G.o (g : G) : Nat × List O := (g.s, opsO g.l)
theorem cellsG_length (L : List G) : (cellsG L).length = L.length * 2 := by
  induction L with
  | nil => rfl
  | cons d L ih => simp only [cellsG, List.flatMap_cons, List.length_append, List.length_cons] at ih ⊢; rw [ih]; simp [G.cells]; omega
theorem cellsG_append (L M : List G) : cellsG (L ++ M) = cellsG L ++ cellsG M := by simp [cellsG]
theorem cellsG_at {L : List G} {i : Nat} {d : G} (h : L[i]? = some d) (j : Nat) (hj : j < 2) : (cellsG L)[i * 2 + j]? = d.cells[j]? := by
  induction L generalizing i with
  | nil => simp at h
  | cons e L ih =>
    have hc : cellsG (e :: L) = e.cells ++ cellsG L := rfl
    rw [hc]
    cases i with
    | zero =>
      simp at h; subst h
      rw [List.getElem?_append_left (by simp [G.cells]; omega)]; simp
    | succ i =>
      simp at h
      rw [List.getElem?_append_right (by simp [G.cells]; omega), ← ih h]
      congr 1
      simp [G.cells]; omega
theorem cellsG_one {L : List G} : ∀ u, u ∈ cellsG L → u.oneCell' = true := by
  intro u hu
  obtain ⟨d, _, h⟩ := List.mem_flatMap.1 hu
  simp [G.cells] at h
  rcases h with rfl | rfl <;> rfl
structure G.Ok (w : World) (R : Nat → Prop) (g : G) : Prop where
  s : g.s < 18446744073709551616
  ops : OpsP w R g.a g.c g.l
theorem G.Ok.later {w w' : World} {R R' : Nat → Prop} {g : G} (h : g.Ok w R) (hk : ∀ k, R k → w'.heap[k]? = w.heap[k]?) (hR : ∀ k, R k → R' k) : g.Ok w' R' := ⟨h.s, h.ops.later hk hR⟩
theorem ops_p {w : World} {B c : Nat} {A : Option Addr} {L : List D} (h : Ops w B A c L) : OpsP w (· < B) A c L := ⟨h.lies.p fun _ h => h, h.len, h.cap, h.ok⟩
/-- A slice of batches. -/
structure Bats (w : World) (B : Nat) (A : Option Addr) (c : Nat) (L : List G) : Prop where
  lies : Lies w B A (cellsG L)
  len : L.length ≤ c
  cap : c ≤ maxLen
  ok : ∀ g, g ∈ L → g.Ok w (· < B)
section
variable {w w' : World} {B : Nat} {A : Option Addr} {c : Nat} {L : List G}
theorem Bats.below (h : Bats w B A c L) (hb : Below B w w') : Bats w' B A c L := ⟨h.lies.below hb, h.len, h.cap, fun d hd => (h.ok d hd).later hb.block fun _ h => h⟩
theorem Bats.up {B' : Nat} (h : Bats w B A c L) (hB : B ≤ B') : Bats w B' A c L := ⟨h.lies.up hB, h.len, h.cap, fun d hd => (h.ok d hd).later (fun _ _ => rfl) fun _ h => Nat.lt_of_lt_of_le h hB⟩
theorem Bats.next (h : Bats w w.heap.size A c L) (hb : Below w.heap.size w w') : Bats w' w'.heap.size A c L := (h.below hb).up hb.size
theorem Bats.zero (w : World) (B : Nat) : Bats w B none 0 [] := ⟨.inl rfl, Nat.le_refl _, by decide, fun _ h => by simp at h⟩
theorem Bats.front {M : List G} (h : Bats w B A c L) (hM : M <+: L) : Bats w B A c M := by
  obtain ⟨N, rfl⟩ := hM
  exact ⟨h.lies.front (by rw [cellsG_append]; exact List.prefix_append _ _), Nat.le_trans (by simp) h.len, h.cap, fun g hg => h.ok g (List.mem_append_left _ hg)⟩
/-- The operations of one batch. -/
theorem Bats.ops (h : Bats w B A c L) {i : Nat} {d : G} (hd : L[i]? = some d) : Ops w B d.a d.c d.l := (h.ok d (List.mem_of_getElem? hd)).ops.ops fun _ h => h
theorem Bats.num (h : Bats w B A c L) {i : Nat} {d : G} (hd : L[i]? = some d) : d.s < 18446744073709551616 := (h.ok d (List.mem_of_getElem? hd)).s
/-- The cells of one batch, as a walk spells them. -/
theorem Bats.place (h : Bats w B A c L) {i : Nat} {d : G} (hd : L[i]? = some d) :
    ∃ ad p : Addr, A = some ad ∧ ad.block < B ∧ ad.add (i * 2) = p ∧ p.block = ad.block ∧ w.cell? p = some (.int .u64 (d.s : Int)) ∧ w.cell? ⟨p.block, p.off + 1, none⟩ = some (.slice d.a d.l.length d.c) := by
  have hl := (List.getElem?_eq_some_iff.1 hd).1
  obtain ⟨ad, ha, hb, hc⟩ := h.lies.place (by rw [cellsG_length]; omega)
  have e : (⟨(ad.add (i * 2)).block, (ad.add (i * 2)).off + 1, none⟩ : Addr) = ad.add (i * 2 + 1) := by
    have hne : ¬ i * 2 + 1 = 0 := by omega
    unfold Addr.add
    rw [if_neg hne]
    split <;> simp <;> omega
  refine ⟨ad, _, ha, hb, rfl, add_block _ _, hc _ _ (by have := cellsG_at hd 0 (by omega); simpa [G.cells] using this), ?_⟩
  rw [e]; exact hc _ _ (by have := cellsG_at hd 1 (by omega); simpa [G.cells] using this)
theorem load_bat {p : Addr} {d : G} (h0 : w.cell? p = some (.int .u64 (d.s : Int))) (h1 : w.cell? ⟨p.block, p.off + 1, none⟩ = some (.slice d.a d.l.length d.c)) : Sem.run Tryz.prog (loadVar 38 p) w = .ok d.v w := by
  have hl := run_loadCells_list (P := Tryz.prog) w p d.cells (fun j v hj => by
    rcases j with _ | _ | j
    · simp [G.cells] at hj; subst hj; exact h0
    · simp [G.cells] at hj; subst hj; exact h1
    · simp [G.cells] at hj)
  have hagg : Sem.run Tryz.prog (isAgg 38) w = .ok true w := by
    unfold isAgg
    rw [Sem.run_bind, run_underlying Tryz.underlying38 w]
    simp
  obtain ⟨i, hi, hs⟩ : ∃ i, Tryz.prog.info? 38 = some i ∧ i.size = 2 := by
    have : (Tryz.prog.info? 38).map (·.size) = some 2 := by kernel_rfl
    cases hq : Tryz.prog.info? 38 with
    | none => rw [hq] at this; cases this
    | some i => rw [hq] at this; exact ⟨i, rfl, by simpa using this⟩
  have hl3 : (loadCells p 2).run Tryz.prog w = .ok #[.int .u64 (d.s : Int), .slice d.a d.l.length d.c] w := hl
  simp [loadVar, Sem.run_bind, hagg, sizeOf, typeInfo, hi, hs, hl3]
end

set_option maxRecDepth 100000 in
theorem open_bats_at {H : Type} {enc : TypeId × Value → H} {W : World} {v : Value} {y : DataW H × List MemPlace} {n : Nat} (h : DataW.trod enc Tryz.prog W 0 (fun _ => true) true n 22 [v] = some y)
    (hlt : ∀ x, x ∈ y.2 → x.block < W.heap.size) : ∃ (A : Option Addr) (c : Nat) (L : List G), v = .slice A L.length c ∧ Bats W W.heap.size A c L := by
  have h3 : Tryz.prog.cellsOf 38 = 2 := by kernel_rfl
  have c1 : Tryz.prog.cellsOf 35 = 1 := by kernel_rfl
  have c2 : Tryz.prog.cellsOf 36 = 1 := by kernel_rfl
  rcases Deep.open_slice Tryz.underlying22 h with ⟨hcs, _⟩ | ⟨a, len, cap, m, n', E, Pl, hcs, _, hl, hm, hmm, rfl, hx⟩
  · simp at hcs
    subst hcs
    exact ⟨none, 0, [], rfl, Bats.zero _ _⟩
  · simp at hcs hmm
    subst hcs hmm
    rw [h3] at hx hlt
    have each : ∀ i, i < len → ∃ d : G, (∀ j, j < 2 → W.cell? (a.add (i * 2 + j)) = d.cells[j]?) ∧ d.Ok W (· < W.heap.size) := by
      intro i hi
      obtain ⟨cs', h1, h2⟩ := hx i (by omega)
      obtain ⟨_, hlen, hcell⟩ := World.cells?_some h1
      obtain ⟨y0, y1, n2, hy, _, t0, t1⟩ := Go.ChangeShapes.trod_struct2 Tryz.underlying38 h2
      match cs', hlen with
      | [v0, v1], _ =>
        have hpl : ∀ x, x ∈ y0.2 ++ y1.2 → x.block < W.heap.size := fun x hx2 => hlt x (List.mem_append_right _ (List.mem_flatMap.2 ⟨i, List.mem_range.2 (by omega), by
          have := congrArg Prod.snd hy; simp only at this; rw [this]; exact hx2⟩))
        obtain ⟨k, rfl, wk⟩ := open_int_at (k := .u64) (n := n2) (y := y0) Tryz.underlying35 (v := v0) (by simpa [c1] using t0)
        obtain ⟨A1, q1, L1, rfl, hO⟩ := open_ops_at (n := n2) (y := y1) (v := v1) (by simpa [c2] using t1) (fun x hx2 => hpl x (by simp [hx2]))
        obtain ⟨s, rfl⟩ := Int.eq_ofNat_of_zero_le (u64_of wk).1
        have b1 := (u64_of wk).2
        refine ⟨⟨s, A1, q1, L1⟩, fun j hj => ?_, ⟨by simp only; omega, ops_p hO⟩⟩
        have := hcell j hj
        rw [Deep.add_add] at this
        rw [this]
        simp [G.cells]
    obtain ⟨f, hf⟩ : ∃ f : Nat → G, ∀ i, i < len → (∀ j, j < 2 → W.cell? (a.add (i * 2 + j)) = (f i).cells[j]?) ∧ (f i).Ok W (· < W.heap.size) := by
      by_cases h0 : len = 0
      · exact ⟨fun _ => ⟨0, none, 0, []⟩, fun i hi => by omega⟩
      · haveI : Inhabited G := ⟨⟨0, none, 0, []⟩⟩
        exact Deep.choose_lt each
    have hL : ((List.range len).map f).length = len := by simp
    refine ⟨some a, m, (List.range len).map f, by rw [hL], ?_, by rw [hL]; exact hl, hm, fun d hd => ?_⟩
    · by_cases h0 : len = 0
      · left; subst h0; rfl
      · refine .inr ⟨a, rfl, ?_, fun j u hu => ?_⟩
        · exact hlt (.cell a.block (a.off + 0)) (List.mem_append_left _ (by unfold MemPlace.row; exact List.mem_map.2 ⟨0, by simp; omega, rfl⟩))
        · have hj := (List.getElem?_eq_some_iff.1 hu).1
          rw [cellsG_length, hL] at hj
          have hd : ((List.range len).map f)[j / 2]? = some (f (j / 2)) := by
            rw [List.getElem?_map, List.getElem?_range (by omega)]; rfl
          have h1 := cellsG_at hd (j % 2) (Nat.mod_lt _ (by decide))
          rw [show j / 2 * 2 + j % 2 = j by omega, hu] at h1
          have h2 := (hf (j / 2) (by omega)).1 (j % 2) (Nat.mod_lt _ (by decide))
          rw [show j / 2 * 2 + j % 2 = j by omega] at h2
          rw [h2, ← h1]
    · obtain ⟨i, hi, rfl⟩ := List.mem_map.1 hd
      exact (hf i (by simpa using hi)).2
set_option maxRecDepth 100000 in
/-- A parameter that is a slice of batches. -/
theorem open_bats {H : Type} {enc : TypeId × Value → H} {W : World} {v : Value} {d : DataW H} {p : List MemPlace} {base : Nat} (hok : Value.okWide Tryz.prog W .any base 22 v)
    (h : DataW.Trod enc Tryz.prog W 0 (fun _ => true) true 22 v d p) (hlt : ∀ x, x ∈ p → x.block < W.heap.size) :
    ∃ (A : Option Addr) (c : Nat) (L : List G), v = .slice A L.length c ∧ Bats W W.heap.size A c L := by
  obtain ⟨a0, len, cap, rfl⟩ := okWide_slice Tryz.underlying22 hok
  obtain ⟨fuel, hf⟩ := h
  exact open_bats_at (n := fuel) (y := (d, p)) (by simpa [Value.cells] using hf) hlt

/-- A slice of batches in blocks of a kind. -/
structure BatsP (w : World) (R : Nat → Prop) (A : Option Addr) (c : Nat) (L : List G) : Prop where
  lies : LiesP w R A (cellsG L)
  len : L.length ≤ c
  cap : c ≤ maxLen
  ok : ∀ g, g ∈ L → g.Ok w R
theorem BatsP.later {w w' : World} {R R' : Nat → Prop} {A : Option Addr} {c : Nat} {L : List G} (h : BatsP w R A c L) (hk : ∀ k, R k → w'.heap[k]? = w.heap[k]?) (hR : ∀ k, R k → R' k) : BatsP w' R' A c L :=
  ⟨h.lies.later hk hR, h.len, h.cap, fun d hd => (h.ok d hd).later hk hR⟩
theorem BatsP.bats {w : World} {R : Nat → Prop} {A : Option Addr} {c B : Nat} {L : List G} (h : BatsP w R A c L) (hR : ∀ k, R k → k < B) : Bats w B A c L :=
  ⟨h.lies.lies hR, h.len, h.cap, fun d hd => (h.ok d hd).later (fun _ _ => rfl) hR⟩
theorem BatsP.zero (w : World) (R : Nat → Prop) : BatsP w R none 0 [] := ⟨.inl rfl, Nat.le_refl _, by decide, fun _ h => by simp at h⟩
/-- Batches in a slice vr of the call's own, outside of its block. -/
structure Acc (B : Nat) (w : World) (vr : Value) (L : List G) : Prop where
  own : w.ownsRow B 38 2 vr L.length (cellsG L)
  each : ∀ g, g ∈ L → g.Ok w (fun k => B ≤ k ∧ k < w.heap.size ∧ ¬ vr.ownBlock = some k)
section
variable {B : Nat} {w w' : World} {vr : Value} {L : List G}
theorem Acc.nil (B : Nat) (w : World) : Acc B w (.slice none 0 0) [] := ⟨World.ownsRow_nil _ _ _ _, by simp⟩
theorem Acc.fresh (h : Acc B w vr L) (hb : Below w.heap.size w w') : Acc B w' vr L :=
  ⟨own_later h.own hb, fun e he => (h.each e he).later (fun k hh => hb.block k hh.2.1) fun k hh => ⟨hh.1, Nat.lt_of_lt_of_le hh.2.1 hb.size, hh.2.2⟩⟩
theorem Acc.bats (h : Acc B w vr L) : ∃ A c, vr = .slice A L.length c ∧ BatsP w (fun k => B ≤ k ∧ k < w.heap.size) A c L := by
  obtain ⟨A, c, hv, h1, h2, _⟩ := own_parts h.own
  subst hv
  exact ⟨A, c, rfl, (LiesP.of_own h.own).later (fun _ _ => rfl) fun k hk => ⟨hk.1, hk.2.1⟩, h1, h2, fun e he => (h.each e he).later (fun _ _ => rfl) fun k hk => ⟨hk.1, hk.2.1⟩⟩
/-- One batch more: append(batches, x), x in memory outside of the slice. -/
theorem Acc.more {g : G} {u : Nat → Prop} (h : Acc B w vr L) (hg : g.Ok w u) (hu : ∀ k, u k → B ≤ k ∧ k < w.heap.size ∧ ¬ vr.ownBlock = some k) (hB : B ≤ w.heap.size) (hL : L.length ≤ 40000000) :
    ∃ v' w', Sem.run Tryz.prog (Builtin.append_ #[22, 22] 22 #[vr, .slice (some ⟨w.heap.size, 0, none⟩) 1 1]) (w.alloc (.cells #[.int .u64 (g.s : Int), .slice g.a g.l.length g.c] 38)) = .ok v' w' ∧ Acc B w' v' (L ++ [g]) ∧ Onto vr v' w w' := by
  have hb := Joins.below_alloc1 w (.cells #[.int .u64 (g.s : Int), .slice g.a g.l.length g.c] 38)
  have hl : Lies (w.alloc (.cells #[.int .u64 (g.s : Int), .slice g.a g.l.length g.c] 38)) (w.heap.size + 1) (some ⟨w.heap.size, 0, none⟩) (cellsG [g]) :=
    lies_block (cs := #[.int .u64 (g.s : Int), .slice g.a g.l.length g.c]) (heap_alloc_new w _) (Nat.lt_succ_self _)
  obtain ⟨v', w', h1, h2, h3⟩ := run_append_onto (P := Tryz.prog) (m := 1) (c := 1) 22 22 38 (.agg #[.int .u64 0, .slice none 0 0]) 2 32 Tryz.underlying22 (by kernel_rfl) rfl (by decide)
      cellsG_one (own_later h.own hb) hl (cellsG_length [g]) (by unfold maxLen; omega) (by omega) (Nat.le_trans hB hb.size)
  have hon := Onto.pre hb h3
  refine ⟨v', w', h1, ⟨?_, fun e he => ?_⟩, hon⟩
  · rw [List.length_append, cellsG_append]
    exact h2
  · rcases List.mem_append.1 he with he | he
    · exact (h.each e he).later (fun k hh => hon.at_block hh.2.1 hh.2.2) fun k hh => ⟨hh.1, Nat.lt_of_lt_of_le hh.2.1 hon.keep.size, hon.off hh.2.1 hh.2.2⟩
    · simp at he
      subst he
      exact hg.later (fun k hh => hon.at_block (hu k hh).2.1 (hu k hh).2.2) fun k hh => ⟨(hu k hh).1, Nat.lt_of_lt_of_le (hu k hh).2.1 hon.keep.size, hon.off (hu k hh).2.1 (hu k hh).2.2⟩
end
end Go.Proofs.YtnbknihaefkllaaGreatDoor.Wl
