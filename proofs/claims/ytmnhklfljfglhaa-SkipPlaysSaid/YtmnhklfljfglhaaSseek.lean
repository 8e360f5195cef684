/- Package skip: what Seek, Before, Get, Len, Bytes and New answer. -/
import Derived.Test.YtmnhklfljfglhaaSpath
namespace Go.Proofs.Ytmnhklfljfglhaa.Sk
set_option linter.unusedVariables false
set_option linter.unusedSimpArgs false
open Go.RowKit Lift Ik

/-- A list in block g, its blocks S, that tells R. -/
def SL (w : World) (g : Nat) (S : Nat → Prop) (R : Row) : Prop := ∃ fs V ns L, Li w g S fs V ns (bytesR R) L ∧ R = L.map (fun q => (q.t, q.h)) ∧ ∀ r, r ∈ R → okT r.1 = true
section
variable {w w' : World} {g : Nat} {S : Nat → Prop} {fs : List Nat} {V : Value} {ns : List N} {z : Nat} {L : List Q} {R : Row} {k : K}
theorem SL.same (h : SL w g S R) (hk : ∀ k, S k → w'.heap[k]? = w.heap[k]?) (hs : w.heap.size ≤ w'.heap.size) : SL w' g S R := by
  obtain ⟨fs, V, ns, L, h1, h2, h3⟩ := h
  exact ⟨fs, V, ns, L, h1.same hk hs, h2, h3⟩
theorem SL.lt (h : SL w g S R) (k : Nat) (hk : S k) : k < w.heap.size := by
  obtain ⟨fs, V, ns, L, h1, h2, h3⟩ := h
  exact h1.lay.lt k hk
theorem SL.below (h : SL w g S R) (hb : Below w.heap.size w w') : SL w' g S R := h.same (fun k hk => hb.block k (h.lt k hk)) hb.size
theorem SL.keep {X : Nat → Prop} (h : SL w g S R) (hk : Keep X w w') (hX : ∀ k, S k → ¬ X k) : SL w' g S R := h.same (fun k hs => hk.block k (h.lt k hs) (hX k hs)) hk.size
theorem SL.sorted (h : SL w g S R) : Sorted rk R := by
  obtain ⟨fs, V, ns, L, h1, h2, h3⟩ := h
  subst h2
  exact List.pairwise_map.2 h1.good.sorted
theorem SL.okR (h : SL w g S R) : ∀ r, r ∈ R → okT r.1 = true := by
  obtain ⟨fs, V, ns, L, h1, h2, h3⟩ := h
  exact h3
theorem SL.len (h : SL w g S R) : R.length ≤ 200 := by
  obtain ⟨fs, V, ns, L, h1, h2, h3⟩ := h
  subst h2
  rw [List.length_map, h1.len]
  exact h1.lay.many
theorem okT_parts {t : T} (h : okT t = true) : 1 ≤ t.k.key.length ∧ t.k.key.length ≤ 256 ∧ t.k.seq ≤ 72057594037927935 ∧ (t.k.kind = 0 ∨ t.k.kind = 1) ∧ t.val.length ≤ 4096 := by
  simp [okT, okB] at h
  obtain ⟨⟨⟨h1, h2, h3, h4⟩, h5⟩, _⟩ := h
  omega
theorem small_of {d : D} {t : T} (e : d.t = t) (h : okT t = true) : small d := by
  subst e
  have := okT_parts h
  unfold small
  have h1 : d.t.k = d.k := rfl
  have h2 : d.t.val = d.val := rfl
  rw [h1, h2] at this
  omega
theorem aft_map (L : List Q) (k : K) : aft rk (L.map fun q => (q.t, q.h)) k = (aft qk L k).map fun q => (q.t, q.h) := (bef_map (f := rk) (fun q : Q => (q.t, q.h)) L).2
theorem bef_map' (L : List Q) (k : K) : bef rk (L.map fun q => (q.t, q.h)) k = (bef qk L k).map fun q => (q.t, q.h) := (bef_map (f := rk) (fun q : Q => (q.t, q.h)) L).1
theorem on_zero {M : List Q} (h : ∀ q, q ∈ M → 1 ≤ q.h) : on 0 M = M.map Q.a := by
  unfold on
  rw [List.filter_eq_self.2 fun q hq => by have := h q hq; simp; omega]
/-- What lies behind the place where a search ends. -/
theorem Li.behind (h : Li w g S fs V ns z L) (k : K) : Spot ns (stop L k 0) 0 ∧ ((aft qk L k = [] ∧ nxt fs ns (stop L k 0) 0 = 0) ∨
    ∃ q v n, aft qk L k = q :: v ∧ q ∈ L ∧ nxt fs ns (stop L k 0) 0 = q.a ∧ 1 ≤ q.a ∧ ns[q.a - 1]? = some n ∧ n.d.t = q.t) := by
  have e : on 0 L = on 0 (bef qk L k) ++ on 0 (aft qk L k) := by rw [← on_append, bef_aft]
  have hn := h.good.next (by omega) e
  refine ⟨spot_of h.rel h.good.idx e, ?_⟩
  have hmem : ∀ q, q ∈ aft qk L k → q ∈ L := fun q hq => by rw [← bef_aft (f := qk) L k]; simp [hq]
  have h0 : on 0 (aft qk L k) = (aft qk L k).map Q.a := on_zero fun q hq => (h.good.hs q (hmem q hq)).1
  rcases hp : aft qk L k with _ | ⟨q, v⟩
  · left
    refine ⟨rfl, ?_⟩
    rw [h0, hp] at hn
    exact hn
  · right
    have hq : q ∈ L := hmem q (by rw [hp]; simp)
    obtain ⟨n, h3, h4, _⟩ := h.rel q hq
    rw [h0, hp] at hn
    exact ⟨q, v, n, rfl, hq, hn, h.good.idx q hq, h3, h4⟩
/-- What lies at that place. -/
theorem Li.ahead (h : Li w g S fs V ns z L) (k : K) : (bef qk L k = [] ∧ stop L k 0 = 0) ∨ ∃ q n, (bef qk L k).getLast? = some q ∧ q ∈ L ∧ stop L k 0 = q.a ∧ 1 ≤ q.a ∧ ns[q.a - 1]? = some n ∧ n.d.t = q.t := by
  have hmem : ∀ q, q ∈ bef qk L k → q ∈ L := fun q hq => by rw [← bef_aft (f := qk) L k]; simp [hq]
  have h0 : on 0 (bef qk L k) = (bef qk L k).map Q.a := on_zero fun q hq => (h.good.hs q (hmem q hq)).1
  rcases List.eq_nil_or_concat (bef qk L k) with hp | ⟨u, q, hp⟩
  · left
    refine ⟨hp, ?_⟩
    unfold stop
    rw [h0, hp]
    rfl
  · right
    rw [List.concat_eq_append] at hp
    have hq : q ∈ L := hmem q (by rw [hp]; simp)
    obtain ⟨n, h3, h4, _⟩ := h.rel q hq
    refine ⟨q, n, by rw [hp]; simp, hq, ?_, h.good.idx q hq, h3, h4⟩
    unfold stop
    rw [h0, hp]
    simp [List.getLastD_eq_getLast?]
theorem found_at {o : Option T} {x : Nat} (h : Lay w g S fs V ns z) (hx : (x = 0 ∧ o = none) ∨ ∃ n t, 1 ≤ x ∧ ns[x - 1]? = some n ∧ n.d.t = t ∧ okT t = true ∧ o = some t) :
    Calls Try.prog (77) #[.pointer (some ⟨g, 0, none⟩), .int .i64 (x : Int)] w (Told w o) := by
  rcases hx with ⟨rfl, rfl⟩ | ⟨n, t, h1, h2, h3, h4, rfl⟩
  · exact found_none h
  · obtain ⟨p, rfl⟩ : ∃ p, x = p + 1 := ⟨x - 1, by omega⟩
    rw [← h3]
    exact found_some p h h2 (small_of h3 h4)
/-- What was told is handed on through a box. -/
theorem told_put {W : World} {W2 : World} {b : Nat} {o : Option T} {d : D} (hb : w.heap.size ≤ b) (hbl : b < W.heap.size) (h0 : Below w.heap.size w W) (ht : d.t = o.getD ⟨⟨[], 0, 0⟩, []⟩) (hok : d.Ok W2 (Fresh W.heap.size W2)) (hw : Below W.heap.size W W2) :
    Told w o (.returned (.tuple #[d.v, .bool o.isSome])) (put W2 b d) := by
  refine ⟨d, rfl, ht, hok.later (fun k hk => put_off _ _ _ _ ?_) fun k hk => ?_, put_below (h0.trans (hw.mono h0.size)) hb _⟩
  · have := hk.1; omega
  · obtain ⟨h1, h2, cs, fr, h3⟩ := hk
    exact ⟨Nat.le_trans h0.size h1, by rw [put_size]; exact h2, cs, fr, (put_off _ _ _ _ (by omega)).trans h3⟩
abbrev kbox (A : Option Addr) (c : Nat) (k : K) : Obj := .cells #[.slice A k.key.length c, .int .u64 (k.seq : Int), .int .i64 k.kind] 34
theorem key_boxes (w : World) (A : Option Addr) (c : Nat) (k : K) : Ik.Box ((w.alloc (kbox A c k)).alloc zbox) w.heap.size A c k ∧ Bx ((w.alloc (kbox A c k)).alloc zbox) (w.heap.size + 1) dz ∧ Below w.heap.size w ((w.alloc (kbox A c k)).alloc zbox) ∧ ((w.alloc (kbox A c k)).alloc zbox).heap.size = w.heap.size + 2 := by
  have h1 : (w.alloc (kbox A c k)).heap.size = w.heap.size + 1 := by simp
  refine ⟨(Ik.Box.new w A c k).later (Joins.below_alloc1 _ _) (by simp), ?_, Joins.below_alloc2 w _ _, by simp⟩
  rw [← h1]
  exact Bx.new (w.alloc (kbox A c k)) dz
theorem seekR_none (h : aft qk L k = []) : seekR (L.map fun q => (q.t, q.h)) k = none := by unfold seekR; rw [aft_map, h]; rfl
theorem seekR_some {q : Q} {v : List Q} (h : aft qk L k = q :: v) : seekR (L.map fun q => (q.t, q.h)) k = some q.t := by unfold seekR; rw [aft_map, h]; rfl
theorem befR_none (h : bef qk L k = []) : befR (L.map fun q => (q.t, q.h)) k = none := by unfold befR; rw [bef_map', h]; rfl
theorem befR_some {q : Q} (h : (bef qk L k).getLast? = some q) : befR (L.map fun q => (q.t, q.h)) k = some q.t := by unfold befR; rw [bef_map', List.getLast?_map, h]; rfl
set_option maxRecDepth 100000 in
set_option maxHeartbeats 1600000 in
theorem seek_any {A : Option Addr} {c : Nat} (h : SL w g S R) (hk : At w w.heap.size A c k) :
    Calls Try.prog (52) #[.pointer (some ⟨g, 0, none⟩), key A c k] w (Told w (seekR R k)) := by
  obtain ⟨fs, V, ns, L, hl, rfl, hok⟩ := h
  obtain ⟨x0, z0, b0, s0⟩ := key_boxes w A c k
  obtain ⟨W0, hW0⟩ : ∃ W0, W0 = (w.alloc (kbox A c k)).alloc zbox := ⟨_, rfl⟩
  rw [← hW0] at x0 z0 b0 s0
  have HP := path_any (hl.below b0) (hk.next b0)
  obtain ⟨hsp, hbh⟩ := hl.behind k
  obtain ⟨arr, harr⟩ : ∃ arr, arr = Value.agg (ints ((List.range 12).map (stop L k))).toArray := ⟨_, rfl⟩
  have qI : ∀ W : World, Sem.run Try.prog (Instr.index 60 arr (.int .i64 0)) W = .ok (.int .i64 ((stop L k 0 : Nat) : Int)) W := fun W => by rw [harr]; kernel_rfl
  rw [← harr] at HP
  obtain ⟨a0, ha0⟩ : ∃ a0, a0 = stop L k 0 := ⟨_, rfl⟩
  rw [← ha0] at qI hsp hbh
  have hx : (nxt fs ns a0 0 = 0 ∧ seekR (L.map fun q => (q.t, q.h)) k = none) ∨ ∃ n t, 1 ≤ nxt fs ns a0 0 ∧ ns[nxt fs ns a0 0 - 1]? = some n ∧ n.d.t = t ∧ okT t = true ∧ seekR (L.map fun q => (q.t, q.h)) k = some t := by
    rcases hbh with ⟨h1, h2⟩ | ⟨q, v, n, h1, h2, h3, h4, h5, h6⟩
    · exact .inl ⟨h2, seekR_none h1⟩
    · exact .inr ⟨n, q.t, by rw [h3]; exact h4, by rw [h3]; exact h5, h6, hok _ (List.mem_map.2 ⟨q, h2, rfl⟩), seekR_some h1⟩
  generalize seekR (L.map fun q => (q.t, q.h)) k = o at hx ⊢
  have HL := Lib.hid hl
  have HH := Lib.hid HP
  have HX := Lib.hid hx
  have HS := Lib.hid hsp
  have X0 := Lib.hid x0
  have Z0 := Lib.hid z0
  have B0 := Lib.hid b0
  have S0 := Lib.hid s0
  clear hl HP hx hsp x0 z0 b0 s0 hbh harr ha0 hok hk
  go_enter (Try.func52), (Try.ntmps52)
  go_wp2_with fail
  rw [← hW0]
  refine HH.out.mono ?_
  rintro e W1 ⟨rfl, hb1⟩
  have B1 := Lib.hid (B0.out.trans (hb1.mono B0.out.size))
  have Z1 : Hid (Bx W1 (w.heap.size + 1) dz) := Lib.hid (Z0.out.below hb1 Z0.out.lt)
  have HN := Lib.hid (next_any a0 0 (HL.out.lay.below B1.out) (by omega) HS.out)
  clear hb1 hW0 HH
  go_wp2_with fail
  refine HN.out.mono ?_
  rintro e w' ⟨rfl, rfl⟩
  have HF := Lib.hid (found_at (HL.out.lay.below B1.out) HX.out)
  clear HN
  generalize nxt fs ns a0 0 = x at *
  go_wp2_with fail
  refine HF.out.mono ?_
  rintro e W2 ⟨d, rfl, ht, hd, hb2⟩
  have z2 : Bx W2 (w.heap.size + 1) dz := Z1.out.below hb2 Z1.out.lt
  obtain ⟨y0, y1, y2, y3, i0, i1, i2, i3⟩ := z2.facts
  have hbx : Bx (put W2 (w.heap.size + 1) d) (w.heap.size + 1) d := put_box _ z2
  have HT := Lib.hid (told_put (b := w.heap.size + 1) (by omega) Z1.out.lt B1.out ht hd hb2)
  have HB := Lib.hid hbx
  clear ht hd hb2 z2 HF hbx
  go_wp2_with fail
  refine bodyPost_ret (results_box rfl Try.underlying36 (by kernel_rfl) _ rfl HB.out) rfl ?_
  exact HT.out
set_option maxRecDepth 100000 in
set_option maxHeartbeats 1600000 in
theorem before_any {A : Option Addr} {c : Nat} (h : SL w g S R) (hk : At w w.heap.size A c k) :
    Calls Try.prog (54) #[.pointer (some ⟨g, 0, none⟩), key A c k] w (Told w (befR R k)) := by
  obtain ⟨fs, V, ns, L, hl, rfl, hok⟩ := h
  obtain ⟨x0, z0, b0, s0⟩ := key_boxes w A c k
  obtain ⟨W0, hW0⟩ : ∃ W0, W0 = (w.alloc (kbox A c k)).alloc zbox := ⟨_, rfl⟩
  rw [← hW0] at x0 z0 b0 s0
  have HP := path_any (hl.below b0) (hk.next b0)
  have hbh := hl.ahead k
  obtain ⟨arr, harr⟩ : ∃ arr, arr = Value.agg (ints ((List.range 12).map (stop L k))).toArray := ⟨_, rfl⟩
  have qI : ∀ W : World, Sem.run Try.prog (Instr.index 60 arr (.int .i64 0)) W = .ok (.int .i64 ((stop L k 0 : Nat) : Int)) W := fun W => by rw [harr]; kernel_rfl
  rw [← harr] at HP
  obtain ⟨a0, ha0⟩ : ∃ a0, a0 = stop L k 0 := ⟨_, rfl⟩
  rw [← ha0] at qI hbh
  have hx : (a0 = 0 ∧ befR (L.map fun q => (q.t, q.h)) k = none) ∨ ∃ n t, 1 ≤ a0 ∧ ns[a0 - 1]? = some n ∧ n.d.t = t ∧ okT t = true ∧ befR (L.map fun q => (q.t, q.h)) k = some t := by
    rcases hbh with ⟨h1, h2⟩ | ⟨q, n, h1, h2, h3, h4, h5, h6⟩
    · exact .inl ⟨h2, befR_none h1⟩
    · exact .inr ⟨n, q.t, by rw [h3]; exact h4, by rw [h3]; exact h5, h6, hok _ (List.mem_map.2 ⟨q, h2, rfl⟩), befR_some h1⟩
  generalize befR (L.map fun q => (q.t, q.h)) k = o at hx ⊢
  have HL := Lib.hid hl
  have HH := Lib.hid HP
  have HX := Lib.hid hx
  have X0 := Lib.hid x0
  have Z0 := Lib.hid z0
  have B0 := Lib.hid b0
  have S0 := Lib.hid s0
  clear hl HP hx x0 z0 b0 s0 hbh harr ha0 hok hk
  go_enter (Try.func54), (Try.ntmps54)
  go_wp2_with fail
  rw [← hW0]
  refine HH.out.mono ?_
  rintro e W1 ⟨rfl, hb1⟩
  have B1 := Lib.hid (B0.out.trans (hb1.mono B0.out.size))
  have Z1 : Hid (Bx W1 (w.heap.size + 1) dz) := Lib.hid (Z0.out.below hb1 Z0.out.lt)
  have HF := Lib.hid (found_at (HL.out.lay.below B1.out) HX.out)
  clear hb1 hW0 HH
  go_wp2_with fail
  refine HF.out.mono ?_
  rintro e W2 ⟨d, rfl, ht, hd, hb2⟩
  have z2 : Bx W2 (w.heap.size + 1) dz := Z1.out.below hb2 Z1.out.lt
  obtain ⟨y0, y1, y2, y3, i0, i1, i2, i3⟩ := z2.facts
  have hbx : Bx (put W2 (w.heap.size + 1) d) (w.heap.size + 1) d := put_box _ z2
  have HT := Lib.hid (told_put (b := w.heap.size + 1) (by omega) Z1.out.lt B1.out ht hd hb2)
  have HB := Lib.hid hbx
  clear ht hd hb2 z2 HF hbx
  go_wp2_with fail
  refine bodyPost_ret (results_box rfl Try.underlying36 (by kernel_rfl) _ rfl HB.out) rfl ?_
  exact HT.out
theorem len_any (h : SL w g S R) : Calls Try.prog (38) #[.pointer (some ⟨g, 0, none⟩)] w fun e w' => e = .returned (.int .i64 (R.length : Nat)) ∧ w = w' := by
  obtain ⟨fs, V, ns, L, hl, rfl, hok⟩ := h
  obtain ⟨r0, -, -, -⟩ := hl.lay.rows
  obtain ⟨A, c, rfl, -, -, -⟩ := own_parts hl.lay.own
  have E := Lib.hid (show (L.map fun q => (q.t, q.h)).length = ns.length by rw [List.length_map, hl.len])
  clear hl hok
  go_enter (Try.func38), (Try.ntmps38)
  go_wp2_with fail
  go_ret
  exact ⟨by rw [E.out]; rfl, rfl⟩
theorem bytes_any (h : SL w g S R) : Calls Try.prog (37) #[.pointer (some ⟨g, 0, none⟩)] w fun e w' => e = .returned (.int .i64 (bytesR R : Nat)) ∧ w = w' := by
  obtain ⟨fs, V, ns, L, hl, h2, hok⟩ := h
  obtain ⟨-, r1, -, -⟩ := hl.lay.rows
  clear hl hok h2
  generalize bytesR R = z at *
  go_enter (Try.func37), (Try.ntmps37)
  go_wp2_with fail
  go_ret
  exact ⟨rfl, rfl⟩
theorem new_any (w : World) : Calls Try.prog 9 #[] w fun e w' => e = .returned (.pointer (some ⟨w.heap.size, 0, none⟩)) ∧ SL w' w.heap.size (· = w.heap.size) [] ∧ Below w.heap.size w w' := by
  go_enter Try.func9, Try.ntmps9
  go_wp2_with fail
  go_ret
  refine ⟨rfl, ⟨zs12, .slice none 0 0, [], [], ⟨⟨Lift.Box.new w Ty.list (ints zs12 ++ [.slice none 0 0, .int .i64 0]), rfl, World.ownsRow_nil _ _ _ _, by simp, by simp, List.Pairwise.nil, by simp, rfl, by simp [Value.ownBlock], by simp, fun k hk => by rw [hk]; simp, by simp⟩, ⟨List.Pairwise.nil, by simp, by simp, List.Pairwise.nil, fun i hi => ?_⟩, fun q hq => by simp at hq, rfl⟩, rfl, by simp⟩, Joins.below_alloc1 _ _⟩
  show nxt zs12 [] 0 i = 0
  have : ∀ i, i < 12 → nxt zs12 [] 0 i = 0 := by decide
  exact this i hi
end
end Go.Proofs.Ytmnhklfljfglhaa.Sk
