/- Package skip: what Get answers. -/
import Derived.Test.YtmnhklfljfglhaaSseek
namespace Go.Proofs.Ytmnhklfljfglhaa.Sk
set_option linter.unusedVariables false
set_option linter.unusedSimpArgs false
open Go.RowKit Lift Ik

/-- Get as Seek answers it. -/
def getS (R : Row) (key : List Nat) (seq : Nat) : Option T := match seekR R ⟨key, seq, 1⟩ with | none => none | some t => if t.k.key = key then some t else none
theorem lt_of_neg {a b : K} : cmpK a b < 0 ↔ cmpK a b = -1 := by have := cmpK_one a b; omega
theorem getS_eq {R : Row} (hs : Sorted rk R) (hk : ∀ r, r ∈ R → r.1.k.kind = 0 ∨ r.1.k.kind = 1) (key : List Nat) (seq : Nat) : getS R key seq = getR R key seq := by
  unfold getS getR seekR
  have h0 := bef_aft (f := rk) R ⟨key, seq, 1⟩
  have hb : ∀ r, r ∈ bef rk R ⟨key, seq, 1⟩ → ¬ (r.1.k.key = key ∧ r.1.k.seq ≤ seq) := by
    rintro r hr ⟨h1, h2⟩
    have hm : r ∈ R := by rw [← h0]; simp [hr]
    have h3 := bef_lt (f := rk) r hr
    rw [lt_of_neg, cmpK_lt] at h3
    rcases h3 with h3 | ⟨_, h3 | ⟨_, h3⟩⟩
    · rw [h1] at h3
      have h3 : cmpB key key = -1 := h3
      have := cmpB_self key
      omega
    · exact absurd h2 (Nat.not_le_of_lt h3)
    · have := hk r hm
      have h3 : (1 : Int) < r.1.k.kind := h3
      omega
  have hf : R.find? (fun r => decide (r.1.k.key = key ∧ r.1.k.seq ≤ seq)) = (aft rk R ⟨key, seq, 1⟩).find? (fun r => decide (r.1.k.key = key ∧ r.1.k.seq ≤ seq)) := by
    conv => lhs; rw [← h0, List.find?_append]
    rw [List.find?_eq_none.2 fun r hr => by simpa using hb r hr]
    rfl
  rw [hf]
  rcases hp : aft rk R ⟨key, seq, 1⟩ with _ | ⟨r, v⟩
  · rfl
  · have hge := aft_head hp
    have hm : r ∈ R := by rw [← h0, hp]; simp
    simp only [List.head?_cons, Option.map_some]
    by_cases hkey : r.1.k.key = key
    · rw [if_pos hkey, List.find?_cons_of_pos]
      · rfl
      · have : r.1.k.seq ≤ seq := by
          apply Classical.byContradiction
          intro h1
          apply hge
          rw [lt_of_neg, cmpK_lt]
          exact .inr ⟨hkey, .inl (Nat.lt_of_not_le h1)⟩
        simp [hkey, this]
    · rw [if_neg hkey]
      have hsv : Sorted rk (r :: v) := by
        have : Sorted rk (bef rk R ⟨key, seq, 1⟩ ++ aft rk R ⟨key, seq, 1⟩) := by rw [h0]; exact hs
        rw [← hp]
        exact (List.pairwise_append.1 this).2.1
      rw [List.find?_eq_none.2]
      · rfl
      · intro r' hr' hq
        have hq : r'.1.k.key = key ∧ r'.1.k.seq ≤ seq := by simpa using hq
        rcases List.mem_cons.1 hr' with rfl | hv
        · exact hkey hq.1
        · have h1 := (List.pairwise_cons.1 hsv).1 r' hv
          have h2 : cmpK r.1.k r'.1.k = cmpB r.1.k.key r'.1.k.key := cmpK_far (by rw [hq.1]; exact hkey)
          have h3 : cmpK r.1.k ⟨key, seq, 1⟩ = cmpB r.1.k.key key := cmpK_far hkey
          rw [hq.1] at h2
          simp only [rk] at h1 hge
          omega
section
variable {w w' : World} {g : Nat} {S : Nat → Prop} {R : Row}
set_option maxRecDepth 100000 in
set_option maxHeartbeats 3200000 in
theorem get_any {A : Option Addr} {c seq : Nat} {ky : List Nat} (h : SL w g S R) (hk : At w w.heap.size A c ⟨ky, seq, 1⟩) :
    Calls Try.prog (50) #[.pointer (some ⟨g, 0, none⟩), .slice A ky.length c, .int .u64 (seq : Int)] w (Told w (getR R ky seq)) := by
  rw [← getS_eq h.sorted (fun r hr => (okT_parts (h.okR r hr)).2.2.2.1) ky seq]
  have hb0 := below_box w dz
  have HS := Lib.hid (seek_any (h.below hb0) (hk.next hb0))
  have HK := Lib.hid hk
  have HZ : Hid (Bx (w.alloc zbox) w.heap.size dz) := Lib.hid (Bx.new w dz)
  have HB := Lib.hid hb0
  have E0 : Hid (getS R ky seq = match seekR R ⟨ky, seq, 1⟩ with | none => none | some t => if t.k.key = ky then some t else none) := Lib.hid rfl
  clear h hk hb0
  generalize getS R ky seq = o2 at *
  generalize seekR R ⟨ky, seq, 1⟩ = o at *
  go_enter (Try.func50), (Try.ntmps50)
  go_wp2_with fail
  refine HS.out.mono ?_
  rintro e W1 ⟨d, rfl, ht, hd, hb1⟩
  have B1 := Lib.hid (HB.out.trans (hb1.mono HB.out.size))
  have hz1 : Bx W1 w.heap.size dz := HZ.out.below hb1 HZ.out.lt
  have hb2 := below_box W1 d
  have B2 := Lib.hid (B1.out.trans (hb2.mono B1.out.size))
  have z2 : Bx (W1.alloc (ebox d)) w.heap.size dz := hz1.alloc _
  have x2 : Bx (W1.alloc (ebox d)) W1.heap.size d := Bx.new W1 d
  have HT := Lib.hid ht
  have HD := Lib.hid hd
  have HW1 := Lib.hid (show w.heap.size < W1.heap.size from hz1.lt)
  have hd2 : d.Ok (W1.alloc (ebox d)) (Fresh w.heap.size (W1.alloc (ebox d))) := hd.later (fun k hk => hb2.block k hk.2.1) fun k hk => Fresh.below hb2 k (Fresh.low (by simp) k hk)
  have HD2 := Lib.hid hd2
  have HQ := Lib.hid (equal_any d.ka A d.kc c d.k.key ky (W1.alloc (ebox d)) (hd2.kl.lies fun k hk => hk.2.1) ((HK.out.next B2.out).1) hd2.ok.1 (HK.out.2.2.2.1))
  have HZ2 := Lib.hid z2
  obtain ⟨x0, -, -, -, -, -, -, -⟩ := x2.facts
  have HX2 := Lib.hid x2
  have HZ1 := Lib.hid hz1
  clear hb1 hb2 z2 x2 hd2 ht hd hz1 HS
  obtain ⟨y0, y1, y2, y3, i0, i1, i2, i3⟩ := HZ1.out.facts
  obtain ⟨-, x1, x2, x3, -, -, -, -⟩ := HX2.out.facts
  have hlt := HW1.out
  have hbz : Below w.heap.size w ((put W1 w.heap.size dz).alloc (ebox d)) := (put_below B1.out (Nat.le_refl _) _).alloc (by rw [put_size]; exact B1.out.size) _
  have HNO := Lib.hid (show Told w none (.returned (.tuple #[dz.v, .bool false])) ((put W1 w.heap.size dz).alloc (ebox d)) from ⟨dz, rfl, rfl, dz_ok _ _, hbz⟩)
  have HNB := Lib.hid (show Bx ((put W1 w.heap.size dz).alloc (ebox d)) w.heap.size dz from (put_box _ HZ1.out).alloc _)
  have HYB := Lib.hid (show Bx ((put W1 w.heap.size d).alloc (ebox d)) w.heap.size d from (put_box _ HZ1.out).alloc _)
  clear hbz
  rcases o with _ | t
  · have E := Lib.hid (show o2 = none from E0.out)
    clear E0 HQ
    go_wp2_with fail
    refine bodyPost_ret (results_box rfl Try.underlying36 (by kernel_rfl) _ rfl HNB.out) rfl ?_
    rw [E.out]
    exact HNO.out
  · have htk : d.k = t.k := by have := HT.out; exact t_k (by simpa using this)
    by_cases hq : d.k.key = ky
    · have d1 : decide (d.k.key = ky) = true := decide_eq_true hq
      have E := Lib.hid (show o2 = some t from E0.out.trans (if_pos (by rw [← htk]; exact hq)))
      have hbd : Below w.heap.size w ((put W1 w.heap.size d).alloc (ebox d)) := (put_below B1.out (Nat.le_refl _) _).alloc (by rw [put_size]; exact B1.out.size) _
      have hfin : d.Ok ((put W1 w.heap.size d).alloc (ebox d)) (Fresh w.heap.size ((put W1 w.heap.size d).alloc (ebox d))) := by
        have hoff : ∀ k, W1.heap.size > k → k ≠ w.heap.size → ((put W1 w.heap.size d).alloc (ebox d)).heap[k]? = W1.heap[k]? := fun k hk hne => by
          rw [Below.heap_alloc _ _ _ (by rw [put_size]; exact hk), put_off _ _ _ _ hne]
        refine HD.out.later (fun k hk => hoff k hk.2.1 ?_) fun k hk => ⟨Nat.le_trans (by simp) hk.1, ?_, ?_⟩
        · have := hk.1; simp at this; omega
        · have := hk.2.1; rw [World.size_alloc, put_size]; omega
        · obtain ⟨h1, h2, cs, fr, h3⟩ := hk
          exact ⟨cs, fr, (hoff k h2 (by simp at h1; omega)).trans h3⟩
      have HY := Lib.hid (show Told w (some t) (.returned (.tuple #[d.v, .bool true])) ((put W1 w.heap.size d).alloc (ebox d)) from ⟨d, rfl, HT.out, hfin, hbd⟩)
      clear hbd hfin htk hq E0
      go_wp2_with fail
      refine HQ.out.mono ?_
      rintro e w' ⟨rfl, rfl⟩
      go_wp2_with fail
      refine bodyPost_ret (results_box rfl Try.underlying36 (by kernel_rfl) _ rfl HYB.out) rfl ?_
      rw [E.out]
      exact HY.out
    · have d1 : decide (d.k.key = ky) = false := decide_eq_false hq
      have E := Lib.hid (show o2 = none from E0.out.trans (if_neg (by rw [← htk]; exact hq)))
      clear htk hq E0
      go_wp2_with fail
      refine HQ.out.mono ?_
      rintro e w' ⟨rfl, rfl⟩
      go_wp2_with fail
      refine bodyPost_ret (results_box rfl Try.underlying36 (by kernel_rfl) _ rfl HNB.out) rfl ?_
      rw [E.out]
      exact HNO.out
end
end Go.Proofs.Ytmnhklfljfglhaa.Sk
