/- A call on both disks, Do of butterylaw6: they tell the same. -/
import Derived.Test.YtnbknihaefkllaaDtri
import Derived.Deep.QuietTactic
import Derived.BigQuiet
namespace Go.Proofs.Ytnbknihaefkllaa.Dl
set_option linter.unusedVariables false
set_option linter.unusedSimpArgs false
open Go.RowKit Go.Maps Lift Ik
open Dk (MS FM hit hit_fs hit_failed sizeM readM syncM appendM crashM renameM onFile num_any)
open Rk (RTold removeM)
section
variable {B g gr go : Nat} {w0 w : World} {S Sr So : Nat → Prop} {m mo : MS} {rm : Int}
/-- true is told, and both disks are m'. -/
def Did (B : Nat) (w0 : World) (g gr : Nat) (rm : Int) (go : Nat) (So : Nat → Prop) (mo m' : MS) (e : Ending) (w' : World) : Prop :=
  ∃ S' Sr', e = .returned (.bool true) ∧ Tri B w0 w' g S' m' gr Sr' rm m' go So mo
theorem off_step {S S' : Nat → Prop} {n bx : Nat} (h : ¬ S bx) (hlt : bx < n) (hS : ∀ k, S' k → S k ∨ n ≤ k) : ¬ S' bx := fun hs => (hS bx hs).elim h (by omega)
set_option maxRecDepth 100000 in
set_option maxHeartbeats 1600000 in
theorem do1 (d : Ac) (T : Tri B w0 w g S m gr Sr rm m go So mo) (hok : d.Ok w0 B) (hp : d.p.size ≤ 60) (hq : d.q.size ≤ 60) (hbl : d.b.length ≤ 300) (hll : d.l.length ≤ 40) (hf : m.failed ≤ 100000) (hway : d.way = 1) :
    Calls Try.prog 9 #[.pointer (some ⟨g, 0, none⟩), .pointer (some ⟨gr, 0, none⟩), d.v] w (Did B w0 g gr rm go So mo (doM m d)) := by
  have HOK := Lib.hid hok
  obtain ⟨US, hus⟩ : ∃ US, US = ([.int .i64 1, .int .i64 d.at', .int .i64 d.n, .string d.p, .string d.q, .slice d.ba d.b.length d.bc, .slice d.la d.l.length d.lc] : List Value) := ⟨_, rfl⟩
  have hb0 := Joins.below_alloc1 w (.cells US.toArray 35)
  have b0 := Box.new w 35 US
  have T0 := Lib.hid (T.below hb0)
  have hn1 : ¬ S w.heap.size := fun h => Nat.lt_irrefl _ (T.d.lt _ h)
  have hn2 : ¬ Sr w.heap.size := fun h => Nat.lt_irrefl _ (T.r.lt _ h)
  have hn3 : ¬ So w.heap.size := fun h => Nat.lt_irrefl _ (T.o.lt _ h)
  have hB3 : B ≤ w.heap.size := T.size
  have E : Hid (doM m d = (syncM m d.p).2) := Lib.hid (by simp [doM, hway])
  have hv : d.v = .agg US.toArray := by rw [hus]; show Value.agg _ = _; rw [hway]
  rw [hv]
  have k0 : (w.alloc (.cells US.toArray 35)).cell? ⟨w.heap.size, 0, none⟩ = some (.int .i64 1) := (b0.cell 0).trans (by rw [hus]; rfl)
  have B0 := Lib.hid b0
  have HUS := Lib.hid hus
  clear T hok hb0 b0 hway hus hv
  go_enter Try.func9, Try.ntmps9
  go_wp2_with fail
  generalize w.alloc (.cells US.toArray 35) = W1 at *
  have T1 := Lib.hid (T0.out.below (Below.refl _ _).drew)
  have B1 : Hid (Box W1.drew w.heap.size 35 US) := B0
  obtain ⟨bx, hbx⟩ : ∃ bx, bx = w.heap.size := ⟨_, rfl⟩
  have hlt1 : w.heap.size < W1.drew.heap.size := B1.out.lt
  refine wp_region_held_drew (S := fun w' => Hid (Box w' w.heap.size 35 US)) (by kernel_rfl) B1 (fun hS => ?_)
  refine wpAnyH_take (i := 0) (v := ?_) rfl (by kernel_rfl) (by kernel_rfl) (by kernel_rfl) (fun _ _ _ h => h) (Or.inl ⟨by rfl, ?_⟩) hS ?_
  rotate_left
  · intro w_ hw
    go_simp
    try with_reducible rfl
  try simp only [Act.put, List.getElem_toArray, List.getElem_cons_succ, List.getElem_cons_zero, List.setIfInBounds_toArray, List.set_cons_zero, List.set_cons_succ]
  refine wpAnyH_take (i := 1) (v := ?_) rfl (by kernel_rfl) (by kernel_rfl) (by kernel_rfl) (fun _ _ _ h => h) (Or.inl ⟨by rfl, ?_⟩) hS ?_
  rotate_left
  · intro w_ hw
    go_simp
    try with_reducible rfl
  try simp only [Act.put, List.getElem_toArray, List.getElem_cons_succ, List.getElem_cons_zero, List.setIfInBounds_toArray, List.set_cons_zero, List.set_cons_succ]
  refine wpAnyH_take (i := 2) (v := ?_) rfl (by kernel_rfl) (by kernel_rfl) (by kernel_rfl) (fun _ _ _ h => h) (Or.inl ⟨by rfl, ?_⟩) hS ?_
  rotate_left
  · intro w_ hw
    have c3 : w_.cell? ⟨w.heap.size, 3, none⟩ = some (.string d.p) := (hw.out.cell 3).trans (by rw [HUS.out]; rfl)
    go_simp
    try with_reducible rfl
  try simp only [Act.put, List.getElem_toArray, List.getElem_cons_succ, List.getElem_cons_zero, List.setIfInBounds_toArray, List.set_cons_zero, List.set_cons_succ]
  refine wpAnyH_take (i := 5) (v := ?_) rfl (by kernel_rfl) (by kernel_rfl) (by kernel_rfl) (fun _ _ _ h => h) (Or.inl ⟨by rfl, ?_⟩) hS ?_
  rotate_left
  · intro w_ hw
    go_simp
    try with_reducible rfl
  try simp only [Act.put, List.getElem_toArray, List.getElem_cons_succ, List.getElem_cons_zero, List.setIfInBounds_toArray, List.set_cons_zero, List.set_cons_succ]
  refine wpAnyH_take (i := 6) (v := ?_) rfl (by kernel_rfl) (by kernel_rfl) (by kernel_rfl) (fun _ _ _ h => h) (Or.inl ⟨by rfl, ?_⟩) hS ?_
  rotate_left
  · intro w_ hw
    go_simp
    try with_reducible rfl
  try simp only [Act.put, List.getElem_toArray, List.getElem_cons_succ, List.getElem_cons_zero, List.setIfInBounds_toArray, List.set_cons_zero, List.set_cons_succ]
  refine wpAnyH_take (i := 7) (v := ?_) rfl (by kernel_rfl) (by kernel_rfl) (by kernel_rfl) (fun _ _ _ h => h) (Or.inl ⟨by rfl, ?_⟩) hS ?_
  rotate_left
  · intro w_ hw
    have c3 : w_.cell? ⟨w.heap.size, 3, none⟩ = some (.string d.p) := (hw.out.cell 3).trans (by rw [HUS.out]; rfl)
    go_simp
    try with_reducible rfl
  try simp only [Act.put, List.getElem_toArray, List.getElem_cons_succ, List.getElem_cons_zero, List.setIfInBounds_toArray, List.set_cons_zero, List.set_cons_succ]
  refine wpAnyH_ready (rs := [3]) (by kernel_rfl) (by simp) ?_
  refine AllReadyH.cons rfl (fun K hK => ?_) AllReadyH.nil
  go_simp
  refine (Dk.sync_any d.p T1.out.d (by omega)).mono ?_
  rintro e W3 ⟨S3, rfl, hA, hK3, hS3⟩
  have T3 := Lib.hid (T1.out.dd hA hK3 hS3)
  have B3 := Lib.hid (B1.out.keep hK3 hn1)
  clear hA hK3 hS3
  go_wp2_with fail
  refine hK.out _ _ B3 (fun hS => ?_)
  clear hK K
  try simp only [Act.put, List.getElem_toArray, List.getElem_cons_succ, List.getElem_cons_zero, List.setIfInBounds_toArray, List.set_cons_zero, List.set_cons_succ]
  refine wpAnyH_ready (rs := [4]) (by kernel_rfl) (by simp) ?_
  refine AllReadyH.cons rfl (fun K hK => ?_) AllReadyH.nil
  go_simp
  refine (num_any _ _).mono ?_; rintro e w' ⟨rfl, rfl⟩
  go_wp2_with fail
  refine hK.out _ _ B3 (fun hS => ?_)
  clear hK K
  try simp only [Act.put, List.getElem_toArray, List.getElem_cons_succ, List.getElem_cons_zero, List.setIfInBounds_toArray, List.set_cons_zero, List.set_cons_succ]
  refine wpAnyH_ready (rs := [8]) (by kernel_rfl) (by simp) ?_
  refine AllReadyH.cons rfl (fun K hK => ?_) AllReadyH.nil
  go_simp
  refine ((Rk.rsync_any d.p (by omega) T3.out.r (by omega)).mono fun e w' ⟨h1, h2, h3⟩ => (⟨Sr, h1, h2, h3, fun k hk => .inl hk⟩ : RTold _ _ _ _ _ e w')).mono ?_
  rintro e W4 ⟨S4, rfl, hA, hK4, hS4⟩
  have T4 := Lib.hid (T3.out.rr hA hK4 hS4)
  have B4 := Lib.hid (B3.out.keep hK4 hn2)
  clear hA hK4 hS4 T3
  generalize syncM m d.p = r at *
  have n1 : ((r.1 : Int) == (r.1 : Int)) = true := by simp
  go_wp2_with fail
  refine hK.out _ _ B4 (fun hS => ?_)
  clear hK K
  try simp only [Act.put, List.getElem_toArray, List.getElem_cons_succ, List.getElem_cons_zero, List.setIfInBounds_toArray, List.set_cons_zero, List.set_cons_succ]
  refine wpAnyH_take (i := 9) (v := ?_) rfl (by kernel_rfl) (by kernel_rfl) (by kernel_rfl) (fun _ _ _ h => h) (Or.inl ⟨by rfl, ?_⟩) hS ?_
  rotate_left
  · intro w hw
    go_simp
    try with_reducible rfl
  try simp only [Act.put, List.getElem_toArray, List.getElem_cons_succ, List.getElem_cons_zero, List.setIfInBounds_toArray, List.set_cons_zero, List.set_cons_succ]
  refine wpAnyH_take (i := 10) (v := ?_) rfl (by kernel_rfl) (by kernel_rfl) (by kernel_rfl) (fun _ _ _ h => h) (Or.inl ⟨by rfl, ?_⟩) hS ?_
  rotate_left
  · intro w hw
    go_simp
    try with_reducible rfl
  try simp only [Act.put, List.getElem_toArray, List.getElem_cons_succ, List.getElem_cons_zero, List.setIfInBounds_toArray, List.set_cons_zero, List.set_cons_succ]
  refine wpAnyH_done (by kernel_rfl) ?_ _
  go_wp2_with fail
  go_ret
  refine ⟨_, _, ?_, by rw [E.out]; exact T4.out⟩
  simp
set_option maxRecDepth 100000 in
set_option maxHeartbeats 1600000 in
theorem do2 (d : Ac) (T : Tri B w0 w g S m gr Sr rm m go So mo) (hok : d.Ok w0 B) (hp : d.p.size ≤ 60) (hq : d.q.size ≤ 60) (hbl : d.b.length ≤ 300) (hll : d.l.length ≤ 40) (hf : m.failed ≤ 100000) (hway : d.way = 2) :
    Calls Try.prog 9 #[.pointer (some ⟨g, 0, none⟩), .pointer (some ⟨gr, 0, none⟩), d.v] w (Did B w0 g gr rm go So mo (doM m d)) := by
  have HOK := Lib.hid hok
  obtain ⟨US, hus⟩ : ∃ US, US = ([.int .i64 2, .int .i64 d.at', .int .i64 d.n, .string d.p, .string d.q, .slice d.ba d.b.length d.bc, .slice d.la d.l.length d.lc] : List Value) := ⟨_, rfl⟩
  have hb0 := Joins.below_alloc1 w (.cells US.toArray 35)
  have b0 := Box.new w 35 US
  have T0 := Lib.hid (T.below hb0)
  have hn1 : ¬ S w.heap.size := fun h => Nat.lt_irrefl _ (T.d.lt _ h)
  have hn2 : ¬ Sr w.heap.size := fun h => Nat.lt_irrefl _ (T.r.lt _ h)
  have hn3 : ¬ So w.heap.size := fun h => Nat.lt_irrefl _ (T.o.lt _ h)
  have hB3 : B ≤ w.heap.size := T.size
  have E : Hid (doM m d = (renameM m d.p d.q).2) := Lib.hid (by simp [doM, hway])
  have hv : d.v = .agg US.toArray := by rw [hus]; show Value.agg _ = _; rw [hway]
  rw [hv]
  have k0 : (w.alloc (.cells US.toArray 35)).cell? ⟨w.heap.size, 0, none⟩ = some (.int .i64 2) := (b0.cell 0).trans (by rw [hus]; rfl)
  have B0 := Lib.hid b0
  have HUS := Lib.hid hus
  clear T hok hb0 b0 hway hus hv
  go_enter Try.func9, Try.ntmps9
  go_wp2_with fail
  generalize w.alloc (.cells US.toArray 35) = W1 at *
  have T1 := Lib.hid (T0.out.below (Below.refl _ _).drew)
  have B1 : Hid (Box W1.drew w.heap.size 35 US) := B0
  obtain ⟨bx, hbx⟩ : ∃ bx, bx = w.heap.size := ⟨_, rfl⟩
  have hlt1 : w.heap.size < W1.drew.heap.size := B1.out.lt
  refine wp_region_held_drew (S := fun w' => Hid (Box w' w.heap.size 35 US)) (by kernel_rfl) B1 (fun hS => ?_)
  refine wpAnyH_take (i := 0) (v := ?_) rfl (by kernel_rfl) (by kernel_rfl) (by kernel_rfl) (fun _ _ _ h => h) (Or.inl ⟨by rfl, ?_⟩) hS ?_
  rotate_left
  · intro w_ hw
    go_simp
    try with_reducible rfl
  try simp only [Act.put, List.getElem_toArray, List.getElem_cons_succ, List.getElem_cons_zero, List.setIfInBounds_toArray, List.set_cons_zero, List.set_cons_succ]
  refine wpAnyH_take (i := 1) (v := ?_) rfl (by kernel_rfl) (by kernel_rfl) (by kernel_rfl) (fun _ _ _ h => h) (Or.inl ⟨by rfl, ?_⟩) hS ?_
  rotate_left
  · intro w_ hw
    go_simp
    try with_reducible rfl
  try simp only [Act.put, List.getElem_toArray, List.getElem_cons_succ, List.getElem_cons_zero, List.setIfInBounds_toArray, List.set_cons_zero, List.set_cons_succ]
  refine wpAnyH_take (i := 2) (v := ?_) rfl (by kernel_rfl) (by kernel_rfl) (by kernel_rfl) (fun _ _ _ h => h) (Or.inl ⟨by rfl, ?_⟩) hS ?_
  rotate_left
  · intro w_ hw
    have c3 : w_.cell? ⟨w.heap.size, 3, none⟩ = some (.string d.p) := (hw.out.cell 3).trans (by rw [HUS.out]; rfl)
    go_simp
    try with_reducible rfl
  try simp only [Act.put, List.getElem_toArray, List.getElem_cons_succ, List.getElem_cons_zero, List.setIfInBounds_toArray, List.set_cons_zero, List.set_cons_succ]
  refine wpAnyH_take (i := 3) (v := ?_) rfl (by kernel_rfl) (by kernel_rfl) (by kernel_rfl) (fun _ _ _ h => h) (Or.inl ⟨by rfl, ?_⟩) hS ?_
  rotate_left
  · intro w_ hw
    go_simp
    try with_reducible rfl
  try simp only [Act.put, List.getElem_toArray, List.getElem_cons_succ, List.getElem_cons_zero, List.setIfInBounds_toArray, List.set_cons_zero, List.set_cons_succ]
  refine wpAnyH_take (i := 4) (v := ?_) rfl (by kernel_rfl) (by kernel_rfl) (by kernel_rfl) (fun _ _ _ h => h) (Or.inl ⟨by rfl, ?_⟩) hS ?_
  rotate_left
  · intro w_ hw
    have c4 : w_.cell? ⟨w.heap.size, 4, none⟩ = some (.string d.q) := (hw.out.cell 4).trans (by rw [HUS.out]; rfl)
    go_simp
    try with_reducible rfl
  try simp only [Act.put, List.getElem_toArray, List.getElem_cons_succ, List.getElem_cons_zero, List.setIfInBounds_toArray, List.set_cons_zero, List.set_cons_succ]
  refine wpAnyH_take (i := 7) (v := ?_) rfl (by kernel_rfl) (by kernel_rfl) (by kernel_rfl) (fun _ _ _ h => h) (Or.inl ⟨by rfl, ?_⟩) hS ?_
  rotate_left
  · intro w_ hw
    go_simp
    try with_reducible rfl
  try simp only [Act.put, List.getElem_toArray, List.getElem_cons_succ, List.getElem_cons_zero, List.setIfInBounds_toArray, List.set_cons_zero, List.set_cons_succ]
  refine wpAnyH_take (i := 8) (v := ?_) rfl (by kernel_rfl) (by kernel_rfl) (by kernel_rfl) (fun _ _ _ h => h) (Or.inl ⟨by rfl, ?_⟩) hS ?_
  rotate_left
  · intro w_ hw
    go_simp
    try with_reducible rfl
  try simp only [Act.put, List.getElem_toArray, List.getElem_cons_succ, List.getElem_cons_zero, List.setIfInBounds_toArray, List.set_cons_zero, List.set_cons_succ]
  refine wpAnyH_take (i := 9) (v := ?_) rfl (by kernel_rfl) (by kernel_rfl) (by kernel_rfl) (fun _ _ _ h => h) (Or.inl ⟨by rfl, ?_⟩) hS ?_
  rotate_left
  · intro w_ hw
    have c3 : w_.cell? ⟨w.heap.size, 3, none⟩ = some (.string d.p) := (hw.out.cell 3).trans (by rw [HUS.out]; rfl)
    go_simp
    try with_reducible rfl
  try simp only [Act.put, List.getElem_toArray, List.getElem_cons_succ, List.getElem_cons_zero, List.setIfInBounds_toArray, List.set_cons_zero, List.set_cons_succ]
  refine wpAnyH_take (i := 10) (v := ?_) rfl (by kernel_rfl) (by kernel_rfl) (by kernel_rfl) (fun _ _ _ h => h) (Or.inl ⟨by rfl, ?_⟩) hS ?_
  rotate_left
  · intro w_ hw
    go_simp
    try with_reducible rfl
  try simp only [Act.put, List.getElem_toArray, List.getElem_cons_succ, List.getElem_cons_zero, List.setIfInBounds_toArray, List.set_cons_zero, List.set_cons_succ]
  refine wpAnyH_take (i := 11) (v := ?_) rfl (by kernel_rfl) (by kernel_rfl) (by kernel_rfl) (fun _ _ _ h => h) (Or.inl ⟨by rfl, ?_⟩) hS ?_
  rotate_left
  · intro w_ hw
    have c4 : w_.cell? ⟨w.heap.size, 4, none⟩ = some (.string d.q) := (hw.out.cell 4).trans (by rw [HUS.out]; rfl)
    go_simp
    try with_reducible rfl
  try simp only [Act.put, List.getElem_toArray, List.getElem_cons_succ, List.getElem_cons_zero, List.setIfInBounds_toArray, List.set_cons_zero, List.set_cons_succ]
  refine wpAnyH_ready (rs := [5]) (by kernel_rfl) (by simp) ?_
  refine AllReadyH.cons rfl (fun K hK => ?_) AllReadyH.nil
  go_simp
  refine (Dk.rename_any d.p d.q T1.out.d (by omega)).mono ?_
  rintro e W3 ⟨S3, rfl, hA, hK3, hS3⟩
  have T3 := Lib.hid (T1.out.dd hA hK3 hS3)
  have B3 := Lib.hid (B1.out.keep hK3 hn1)
  clear hA hK3 hS3
  go_wp2_with fail
  refine hK.out _ _ B3 (fun hS => ?_)
  clear hK K
  try simp only [Act.put, List.getElem_toArray, List.getElem_cons_succ, List.getElem_cons_zero, List.setIfInBounds_toArray, List.set_cons_zero, List.set_cons_succ]
  refine wpAnyH_ready (rs := [6]) (by kernel_rfl) (by simp) ?_
  refine AllReadyH.cons rfl (fun K hK => ?_) AllReadyH.nil
  go_simp
  refine (num_any _ _).mono ?_; rintro e w' ⟨rfl, rfl⟩
  go_wp2_with fail
  refine hK.out _ _ B3 (fun hS => ?_)
  clear hK K
  try simp only [Act.put, List.getElem_toArray, List.getElem_cons_succ, List.getElem_cons_zero, List.setIfInBounds_toArray, List.set_cons_zero, List.set_cons_succ]
  refine wpAnyH_ready (rs := [12]) (by kernel_rfl) (by simp) ?_
  refine AllReadyH.cons rfl (fun K hK => ?_) AllReadyH.nil
  go_simp
  refine (Rk.rrename_any d.p d.q (by omega) (by omega) T3.out.r (by omega)).mono ?_
  rintro e W4 ⟨S4, rfl, hA, hK4, hS4⟩
  have T4 := Lib.hid (T3.out.rr hA hK4 hS4)
  have B4 := Lib.hid (B3.out.keep hK4 hn2)
  clear hA hK4 hS4 T3
  generalize renameM m d.p d.q = r at *
  have n1 : ((r.1 : Int) == (r.1 : Int)) = true := by simp
  go_wp2_with fail
  refine hK.out _ _ B4 (fun hS => ?_)
  clear hK K
  try simp only [Act.put, List.getElem_toArray, List.getElem_cons_succ, List.getElem_cons_zero, List.setIfInBounds_toArray, List.set_cons_zero, List.set_cons_succ]
  refine wpAnyH_take (i := 13) (v := ?_) rfl (by kernel_rfl) (by kernel_rfl) (by kernel_rfl) (fun _ _ _ h => h) (Or.inl ⟨by rfl, ?_⟩) hS ?_
  rotate_left
  · intro w hw
    go_simp
    try with_reducible rfl
  try simp only [Act.put, List.getElem_toArray, List.getElem_cons_succ, List.getElem_cons_zero, List.setIfInBounds_toArray, List.set_cons_zero, List.set_cons_succ]
  refine wpAnyH_take (i := 14) (v := ?_) rfl (by kernel_rfl) (by kernel_rfl) (by kernel_rfl) (fun _ _ _ h => h) (Or.inl ⟨by rfl, ?_⟩) hS ?_
  rotate_left
  · intro w hw
    go_simp
    try with_reducible rfl
  try simp only [Act.put, List.getElem_toArray, List.getElem_cons_succ, List.getElem_cons_zero, List.setIfInBounds_toArray, List.set_cons_zero, List.set_cons_succ]
  refine wpAnyH_done (by kernel_rfl) ?_ _
  go_wp2_with fail
  go_ret
  refine ⟨_, _, ?_, by rw [E.out]; exact T4.out⟩
  simp
set_option maxRecDepth 100000 in
set_option maxHeartbeats 1600000 in
theorem do3 (d : Ac) (T : Tri B w0 w g S m gr Sr rm m go So mo) (hok : d.Ok w0 B) (hp : d.p.size ≤ 60) (hq : d.q.size ≤ 60) (hbl : d.b.length ≤ 300) (hll : d.l.length ≤ 40) (hf : m.failed ≤ 100000) (hway : d.way = 3) :
    Calls Try.prog 9 #[.pointer (some ⟨g, 0, none⟩), .pointer (some ⟨gr, 0, none⟩), d.v] w (Did B w0 g gr rm go So mo (doM m d)) := by
  have HOK := Lib.hid hok
  obtain ⟨US, hus⟩ : ∃ US, US = ([.int .i64 3, .int .i64 d.at', .int .i64 d.n, .string d.p, .string d.q, .slice d.ba d.b.length d.bc, .slice d.la d.l.length d.lc] : List Value) := ⟨_, rfl⟩
  have hb0 := Joins.below_alloc1 w (.cells US.toArray 35)
  have b0 := Box.new w 35 US
  have T0 := Lib.hid (T.below hb0)
  have hn1 : ¬ S w.heap.size := fun h => Nat.lt_irrefl _ (T.d.lt _ h)
  have hn2 : ¬ Sr w.heap.size := fun h => Nat.lt_irrefl _ (T.r.lt _ h)
  have hn3 : ¬ So w.heap.size := fun h => Nat.lt_irrefl _ (T.o.lt _ h)
  have hB3 : B ≤ w.heap.size := T.size
  have E : Hid (doM m d = (removeM m d.p).2) := Lib.hid (by simp [doM, hway])
  have hv : d.v = .agg US.toArray := by rw [hus]; show Value.agg _ = _; rw [hway]
  rw [hv]
  have k0 : (w.alloc (.cells US.toArray 35)).cell? ⟨w.heap.size, 0, none⟩ = some (.int .i64 3) := (b0.cell 0).trans (by rw [hus]; rfl)
  have B0 := Lib.hid b0
  have HUS := Lib.hid hus
  clear T hok hb0 b0 hway hus hv
  go_enter Try.func9, Try.ntmps9
  go_wp2_with fail
  generalize w.alloc (.cells US.toArray 35) = W1 at *
  have T1 := Lib.hid (T0.out.below (Below.refl _ _).drew)
  have B1 : Hid (Box W1.drew w.heap.size 35 US) := B0
  obtain ⟨bx, hbx⟩ : ∃ bx, bx = w.heap.size := ⟨_, rfl⟩
  have hlt1 : w.heap.size < W1.drew.heap.size := B1.out.lt
  refine wp_region_held_drew (S := fun w' => Hid (Box w' w.heap.size 35 US)) (by kernel_rfl) B1 (fun hS => ?_)
  refine wpAnyH_take (i := 0) (v := ?_) rfl (by kernel_rfl) (by kernel_rfl) (by kernel_rfl) (fun _ _ _ h => h) (Or.inl ⟨by rfl, ?_⟩) hS ?_
  rotate_left
  · intro w_ hw
    go_simp
    try with_reducible rfl
  try simp only [Act.put, List.getElem_toArray, List.getElem_cons_succ, List.getElem_cons_zero, List.setIfInBounds_toArray, List.set_cons_zero, List.set_cons_succ]
  refine wpAnyH_take (i := 1) (v := ?_) rfl (by kernel_rfl) (by kernel_rfl) (by kernel_rfl) (fun _ _ _ h => h) (Or.inl ⟨by rfl, ?_⟩) hS ?_
  rotate_left
  · intro w_ hw
    go_simp
    try with_reducible rfl
  try simp only [Act.put, List.getElem_toArray, List.getElem_cons_succ, List.getElem_cons_zero, List.setIfInBounds_toArray, List.set_cons_zero, List.set_cons_succ]
  refine wpAnyH_take (i := 2) (v := ?_) rfl (by kernel_rfl) (by kernel_rfl) (by kernel_rfl) (fun _ _ _ h => h) (Or.inl ⟨by rfl, ?_⟩) hS ?_
  rotate_left
  · intro w_ hw
    have c3 : w_.cell? ⟨w.heap.size, 3, none⟩ = some (.string d.p) := (hw.out.cell 3).trans (by rw [HUS.out]; rfl)
    go_simp
    try with_reducible rfl
  try simp only [Act.put, List.getElem_toArray, List.getElem_cons_succ, List.getElem_cons_zero, List.setIfInBounds_toArray, List.set_cons_zero, List.set_cons_succ]
  refine wpAnyH_take (i := 5) (v := ?_) rfl (by kernel_rfl) (by kernel_rfl) (by kernel_rfl) (fun _ _ _ h => h) (Or.inl ⟨by rfl, ?_⟩) hS ?_
  rotate_left
  · intro w_ hw
    go_simp
    try with_reducible rfl
  try simp only [Act.put, List.getElem_toArray, List.getElem_cons_succ, List.getElem_cons_zero, List.setIfInBounds_toArray, List.set_cons_zero, List.set_cons_succ]
  refine wpAnyH_take (i := 6) (v := ?_) rfl (by kernel_rfl) (by kernel_rfl) (by kernel_rfl) (fun _ _ _ h => h) (Or.inl ⟨by rfl, ?_⟩) hS ?_
  rotate_left
  · intro w_ hw
    go_simp
    try with_reducible rfl
  try simp only [Act.put, List.getElem_toArray, List.getElem_cons_succ, List.getElem_cons_zero, List.setIfInBounds_toArray, List.set_cons_zero, List.set_cons_succ]
  refine wpAnyH_take (i := 7) (v := ?_) rfl (by kernel_rfl) (by kernel_rfl) (by kernel_rfl) (fun _ _ _ h => h) (Or.inl ⟨by rfl, ?_⟩) hS ?_
  rotate_left
  · intro w_ hw
    have c3 : w_.cell? ⟨w.heap.size, 3, none⟩ = some (.string d.p) := (hw.out.cell 3).trans (by rw [HUS.out]; rfl)
    go_simp
    try with_reducible rfl
  try simp only [Act.put, List.getElem_toArray, List.getElem_cons_succ, List.getElem_cons_zero, List.setIfInBounds_toArray, List.set_cons_zero, List.set_cons_succ]
  refine wpAnyH_ready (rs := [3]) (by kernel_rfl) (by simp) ?_
  refine AllReadyH.cons rfl (fun K hK => ?_) AllReadyH.nil
  go_simp
  refine (Dk.remove_any d.p T1.out.d (by omega)).mono ?_
  rintro e W3 ⟨S3, rfl, hA, hK3, hS3⟩
  have T3 := Lib.hid (T1.out.dd hA hK3 hS3)
  have B3 := Lib.hid (B1.out.keep hK3 hn1)
  clear hA hK3 hS3
  go_wp2_with fail
  refine hK.out _ _ B3 (fun hS => ?_)
  clear hK K
  try simp only [Act.put, List.getElem_toArray, List.getElem_cons_succ, List.getElem_cons_zero, List.setIfInBounds_toArray, List.set_cons_zero, List.set_cons_succ]
  refine wpAnyH_ready (rs := [4]) (by kernel_rfl) (by simp) ?_
  refine AllReadyH.cons rfl (fun K hK => ?_) AllReadyH.nil
  go_simp
  refine (num_any _ _).mono ?_; rintro e w' ⟨rfl, rfl⟩
  go_wp2_with fail
  refine hK.out _ _ B3 (fun hS => ?_)
  clear hK K
  try simp only [Act.put, List.getElem_toArray, List.getElem_cons_succ, List.getElem_cons_zero, List.setIfInBounds_toArray, List.set_cons_zero, List.set_cons_succ]
  refine wpAnyH_ready (rs := [8]) (by kernel_rfl) (by simp) ?_
  refine AllReadyH.cons rfl (fun K hK => ?_) AllReadyH.nil
  go_simp
  refine (Rk.rremove_any d.p (by omega) T3.out.r (by omega)).mono ?_
  rintro e W4 ⟨S4, rfl, hA, hK4, hS4⟩
  have T4 := Lib.hid (T3.out.rr hA hK4 hS4)
  have B4 := Lib.hid (B3.out.keep hK4 hn2)
  clear hA hK4 hS4 T3
  generalize removeM m d.p = r at *
  have n1 : ((r.1 : Int) == (r.1 : Int)) = true := by simp
  go_wp2_with fail
  refine hK.out _ _ B4 (fun hS => ?_)
  clear hK K
  try simp only [Act.put, List.getElem_toArray, List.getElem_cons_succ, List.getElem_cons_zero, List.setIfInBounds_toArray, List.set_cons_zero, List.set_cons_succ]
  refine wpAnyH_take (i := 9) (v := ?_) rfl (by kernel_rfl) (by kernel_rfl) (by kernel_rfl) (fun _ _ _ h => h) (Or.inl ⟨by rfl, ?_⟩) hS ?_
  rotate_left
  · intro w hw
    go_simp
    try with_reducible rfl
  try simp only [Act.put, List.getElem_toArray, List.getElem_cons_succ, List.getElem_cons_zero, List.setIfInBounds_toArray, List.set_cons_zero, List.set_cons_succ]
  refine wpAnyH_take (i := 10) (v := ?_) rfl (by kernel_rfl) (by kernel_rfl) (by kernel_rfl) (fun _ _ _ h => h) (Or.inl ⟨by rfl, ?_⟩) hS ?_
  rotate_left
  · intro w hw
    go_simp
    try with_reducible rfl
  try simp only [Act.put, List.getElem_toArray, List.getElem_cons_succ, List.getElem_cons_zero, List.setIfInBounds_toArray, List.set_cons_zero, List.set_cons_succ]
  refine wpAnyH_done (by kernel_rfl) ?_ _
  go_wp2_with fail
  go_ret
  refine ⟨_, _, ?_, by rw [E.out]; exact T4.out⟩
  simp
end
end Go.Proofs.Ytnbknihaefkllaa.Dl
