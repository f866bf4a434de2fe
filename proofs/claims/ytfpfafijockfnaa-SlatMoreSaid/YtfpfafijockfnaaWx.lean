/- The tail of the law SlatMore: the four other pairings. -/
import Derived.Test.YtfpfafijockfnaaWm
import Derived.Test.YtfpfafijockfnaaYn
namespace Go.Proofs.Ytfpfafijockfnaa
open Go.RowKit Go.Shelf

/-- The code from a region on. -/
def tailAt (k : Nat) : Code → Code
  | .seq a b => match a with
    | .region n x y => bif n == k then .seq (.region n x y) b else tailAt k b
    | _ => tailAt k b
  | c => c
noncomputable def tail30 : Code := tailAt 30 ((Try.f9.body).getD .skip)
noncomputable def reg30 : Code := match tail30 with
  | .seq x _ => x
  | x => x
noncomputable def tail31 : Code := match tail30 with
  | .seq _ x => x
  | x => x
/-- What lies in the boxes of the law. -/
structure MrB (w : World) (j : Jig) (a b : Slat) (W : World) : Prop where
  hb : Below w.heap.size w W
  k4 : Blk W w.heap.size 25 #[.int .i64 j.glue.lo, .int .i64 j.glue.hi, .int .i64 j.lead.lo, .int .i64 j.lead.hi, .int .i64 j.side.lo, .int .i64 j.side.hi, .int .i64 j.height.lo, .int .i64 j.height.hi, .int .i64 j.play, .int .i64 j.grooves]
  k5 : Blk W (w.heap.size + 1) 37 #[.int .i64 a.thick.lo, .int .i64 a.thick.hi, .int .i64 a.depth.lo, .int .i64 a.depth.hi, .int .i64 a.shift.lo, .int .i64 a.shift.hi, .int .i64 a.pitch.lo, .int .i64 a.pitch.hi]
  k6 : Blk W (w.heap.size + 1 + 1) 37 #[.int .i64 b.thick.lo, .int .i64 b.thick.hi, .int .i64 b.depth.lo, .int .i64 b.depth.hi, .int .i64 b.shift.lo, .int .i64 b.shift.hi, .int .i64 b.pitch.lo, .int .i64 b.pitch.hi]
section
variable {w : World} {j : Jig} {a b : Slat} {W W' : World}
theorem MrB.low (h : MrB w j a b W) {B : Nat} (hb : Below B W W') (hB : w.heap.size + 1 + 1 < B) : MrB w j a b W' := ⟨h.hb.trans (hb.mono (by omega)), h.k4.below hb (by omega), h.k5.below hb (by omega), h.k6.below hb (by omega)⟩
theorem MrB.call (h : MrB w j a b W) (hb : Below W.heap.size W W') : MrB w j a b W' := h.low hb h.k6.lt
theorem MrB.start (w : World) (j : Jig) (a b : Slat) : MrB w j a b (((w.alloc (.cells #[.int .i64 j.glue.lo, .int .i64 j.glue.hi, .int .i64 j.lead.lo, .int .i64 j.lead.hi, .int .i64 j.side.lo, .int .i64 j.side.hi, .int .i64 j.height.lo, .int .i64 j.height.hi, .int .i64 j.play, .int .i64 j.grooves] 25)).alloc (.cells #[.int .i64 a.thick.lo, .int .i64 a.thick.hi, .int .i64 a.depth.lo, .int .i64 a.depth.hi, .int .i64 a.shift.lo, .int .i64 a.shift.hi, .int .i64 a.pitch.lo, .int .i64 a.pitch.hi] 37)).alloc (.cells #[.int .i64 b.thick.lo, .int .i64 b.thick.hi, .int .i64 b.depth.lo, .int .i64 b.depth.hi, .int .i64 b.shift.lo, .int .i64 b.shift.hi, .int .i64 b.pitch.lo, .int .i64 b.pitch.hi] 37)) := ⟨by repeat (first | exact Below.refl _ _ | assumption | refine Below.drew ?_ | refine Below.alloc ?_ (by first | omega | (simp only [World.size_alloc]; omega) | simp) _ | refine Below.setCell ?_ (by first | omega | (simp only [World.size_alloc]; omega) | simp) _), ((Blk.new _ _ _).alloc _).alloc _, (blk5 _ _ (by simp) rfl).alloc _, blk5 _ _ (by simp) rfl⟩
end
theorem meas_lt {N k : Nat} (h : k < N) : N - (intOf (.int .i64 ((k : Int) + 1))).toNat < N - (intOf (.int .i64 (k : Int))).toNat := by
  simp [intOf]; omega
theorem slats_newsA {W : World} {B : Nat} {A : Option Addr} {l : List Slat} (h : SlatSl W B A l) : ∀ ad, A = some ad → ∀ (j : Nat) u, (slatsV l)[j]? = some u → W.cell? (ad.add j) = some u := fun ad e j u hj => by
  by_cases hl : l = []
  · subst hl
    simp [slatsV] at hj
  · obtain ⟨b, off, e2, -, hs⟩ := h hl
    rw [e] at e2
    cases e2
    exact slats_news hs j u hj
theorem slats_form {W : World} {B n : Nat} {v : Value} {l : List Slat} (h : W.ownsRow B 37 8 v n (slatsV l)) (hn : n = l.length) : ∃ A c, v = .slice A l.length c ∧ SlatSl W W.heap.size A l := by
  subst hn
  obtain ⟨A, c, rfl⟩ : ∃ A c, v = .slice A l.length c := by
    rcases h.2 with ⟨h1, h2⟩ | ⟨g, cap, cur, h1, -⟩
    · exact ⟨none, 0, by rw [h1, h2]⟩
    · exact ⟨_, _, h1⟩
  exact ⟨A, c, rfl, slats_own h rfl⟩
theorem rot_next (u : List Slat) (r k : Nat) (hk : k < u.length) {s : Slat} (hs : u[(k + r) % u.length]? = some s) : slatsV ((rotL u r).take (k + 1)) = slatsV ((rotL u r).take k) ++ [.int .i64 s.thick.lo, .int .i64 s.thick.hi, .int .i64 s.depth.lo, .int .i64 s.depth.hi, .int .i64 s.shift.lo, .int .i64 s.shift.hi, .int .i64 s.pitch.lo, .int .i64 s.pitch.hi] := by
  rw [List.take_add_one, rotL_get u r k hk, hs, slatsV_append]
  rfl
theorem own_geX {W : World} {B : Nat} {e : TypeId} {size : Nat} {v : Value} {k : Nat} {xs : List Value} (hr : W.ownsRow B e size v k xs) : ∀ g, v.ownBlock = some g → B ≤ g := by
  rcases hr.2 with ⟨rfl, _⟩ | ⟨g, cap, cur, rfl, hg, hgb, _⟩
  · simp [Value.ownBlock]
  · intro g' e'
    have : g = g' := by simpa [Value.ownBlock] using e'
    omega
theorem below_app {B : Nat} {W W' : World} {e : TypeId} {size : Nat} {v : Value} {k : Nat} {xs : List Value} (hB : B ≤ W.heap.size) (ho : W.ownsRow B e size v k xs) (hg : W.grownBy W' v.ownBlock) : Below B W W' :=
  (Below.refl B W).grown hg hB (own_geX ho)
theorem wpList_bs {P : Program} {ops : Array Oper} {rest : List Oper} {o : Oper} {a : Act} {w : World} {Q : Exit → Act → World → Prop} (hg : o.guard = none) (t e : TypeId) (len : Nat) (parts : Array (Nat × Operand)) (ho : o.op = .buildSlice t len parts)
    (cells : Array Value) (vs : List Value) (z : Value) (n : Nat) (hu : P.underlying t = some (.slice e)) (hi : (P.info? e).map (fun i => (i.zero, i.size)) = some (some z, n)) (hn : 0 < n ∧ 0 < len ∧ len * n ≤ 2 ^ 24)
    (hv : parts.toList.map (fun x => (x.1, a.eval x.2)) = (vs.zipIdx 0).map fun x => (x.2, x.1)) (h1 : vs.all (fun v => v.cells.size == n) = true) (h2 : vs.length = len) (hc : (vs.flatMap fun v => v.cells.toList).toArray = cells)
    (h : wpList P ops Q rest (a.put o.dst (.slice (some ⟨w.heap.size, 0, none⟩) len len)) (w.alloc (.cells cells e))) : wpList P ops Q (o :: rest) a w :=
  wpList_plain hg fun _ hK => wp_bs t e len parts ho cells vs z n hu hi hn hv h1 h2 hc (hK _ _ h)
/-- What a pairing returns, but for its pairs. -/
def RetP (p z : Int) (W : World) (e : Ending) (W' : World) : Prop := ∃ v, e = .returned (.tuple #[v, .int .i64 p, .int .i64 z]) ∧ Below W.heap.size W W'
theorem pair_ret {W : World} {A B : Option Addr} {n m ca cb : Nat} {j : Jig} {l u : List Slat} {lim p z : Int} (h1 : l.length ≤ 10) (h2 : u.length ≤ 10) (hA : SlatSl W W.heap.size A l) (hB : SlatSl W W.heap.size B u) (en : n = l.length) (em : m = u.length) (hp : (pairR j l u lim).1.2 = p) (hz : (pairR j l u lim).2 = z) :
    Calls Try.prog 13 #[.agg #[.int .i64 j.glue.lo, .int .i64 j.glue.hi, .int .i64 j.lead.lo, .int .i64 j.lead.hi, .int .i64 j.side.lo, .int .i64 j.side.hi, .int .i64 j.height.lo, .int .i64 j.height.hi, .int .i64 j.play, .int .i64 j.grooves], .slice A n ca, .slice B m cb, .int .i64 lim] W (RetP p z W) := by
  subst en em hp hz
  refine (pairW_any W A B ca cb j l u lim (by omega) (by omega) hA hB).mono ?_
  rintro e W' ⟨A', c', rfl, -, hb⟩
  exact ⟨_, rfl, hb⟩
/-- The loops of a code, in their order. -/
def loopsM : Code → List Code
  | .loop c => c :: loopsM c
  | .seq a b => loopsM a ++ loopsM b
  | .block _ c => loopsM c
  | .scope c => loopsM c
  | .cond _ a b => loopsM a ++ loopsM b
  | _ => []
noncomputable def bodyM : Code := ((Try.f9.body.map loopsM).getD [])[0]?.getD .skip
set_option maxRecDepth 100000 in
set_option maxHeartbeats 16000000 in
theorem more_loop (wc : World) (A1 A2 : Option Addr) (c1 c2 : Nat) (l1 l2 : List Int) (hl10 : (l1.length : Int) ≤ 10) (HLL : Hid (l1.length ≤ 10 ∧ ∀ k, k < l1.length → l2.length = l1.length ∧ ∀ u v : Int, l1[k]? = some u → l2[k]? = some v → u ≠ -1 → v ≠ -1 ∧ v ≤ u)) (HP1 : Hid (IntSl wc wc.heap.size A1 l1)) (HP2 : Hid (IntSl wc wc.heap.size A2 l2))
    (Q0 : Exit → Act → World → Prop) (hP0 : ∀ ch a1 a2 w1, Q0 (.panic ch) a1 w1 → Q0 (.panic ch) a2 w1)
    (d0 d1 d2 d3 d4 d5 d6 d7 d8 d9 d10 d11 d12 d13 d14 d15 d16 d17 d18 d19 d20 d21 d22 d23 d24 d25 d26 d27 d28 d29 d30 d31 d32 d34 d36 d37 d38 d39 d40 d41 d42 d43 d44 d45 d46 d47 d48 d49 d50 d51 d52 d53 d54 d55 d56 d57 d58 d59 d60 d61 d62 d63 d64 d65 d66 d67 d68 d69 d70 d71 d72 d73 d74 d75 d76 d77 d78 d79 d80 d81 d82 d83 d84 d85 d86 d87 d88 d89 d90 d91 d92 d93 d94 d95 d96 d97 d98 d99 d100 d101 d102 d103 d104 d105 d106 d107 d108 d109 d110 d111 d112 d113 d114 d115 d116 d117 d118 d119 d120 d121 d122 d123 d124 d125 d126 d127 d128 d129 d130 d131 d132 d133 d134 d135 d136 d137 d138 d139 d140 d141 d142 d143 d144 d145 d146 d147 d148 d149 d150 d151 d152 d153 d154 d155 d156 d157 d158 d159 d160 d161 d162 d163 d164 d165 d166 d167 d168 d169 d170 d171 d172 d173 d174 d175 d176 d177 d178 d179 d180 d181 d182 d183 d184 d185 d186 d187 d188 d189 d190 d191 d192 d193 d194 d195 d196 d197 d198 d199 d200 d201 d202 d203 d204 d205 d206 d207 d208 d209 d210 d211 d212 d213 d214 d215 d216 d217 d218 d219 d220 d221 d222 d223 d224 d225 d226 d227 d228 d229 d230 d231 d232 d233 d234 d235 d236 d237 d238 d239 d240 d241 d242 d243 d244 d245 d246 d247 d248 d249 d250 d251 d252 d253 d254 d255 d256 d257 d258 d259 d260 d261 d262 d263 d264 d265 d266 d267 d268 d269 d270 d273 d274 d275 d276 d277 d278 d279 d280 d281 d282 d283 d284 d285 d286 d287 d288 d289 d290 d291 d292 d293 d294 d295 d296 d297 d298 d299 d300 d301 d302 d303 d304 d305 d306 d307 d308 d309 d310 d311 d312 d313 d314 d315 d316 d317 d318 d319 d320 d321 d322 d323 d324 d325 d326 d327 d328 d329 d330 d331 d332 d333 d334 d335 d336 d337 d338 d339 d340 d341 d342 d343 d344 d345 d346 d347 d348 d349 d350 d351 d352 d353 d354 d355 d356 d357 d358 d359 d360 d361 d362 d363 d364 d365 d366 d367 d368 d369 d370 d371 d372 d373 d374 d375 d376 d377 d378 d379 d380 d381 d382 d383 d384 d385 d386 d387 d388 d389 d390 d391 d392 d393 d394 d395 d396 d397 d398 d399 d400 d401 d402 d403 d404 d405 d406 d407 d408 d409 d410 d411 d412 d413 d414 d415 d416 d417 d418 d419 d420 : Value)
    (hexit : ∀ (u16 u37 u272 u273 u274 u275 u276 u277 u278 u279 u280 u281 u282 u283 u284 u285 u286 u287 u288 u289 u290 u291 u292 u293 u294 u295 u296 u297 u298 : Value) (w' : World), Hid (Below wc.heap.size wc w') → Q0 (.exit 0) ⟨List.toArray (d0 :: d1 :: d2 :: d3 :: d4 :: d5 :: d6 :: d7 :: d8 :: d9 :: d10 :: d11 :: d12 :: d13 :: d14 :: d15 :: u16 :: d17 :: d18 :: d19 :: d20 :: d21 :: d22 :: d23 :: d24 :: d25 :: d26 :: d27 :: d28 :: d29 :: d30 :: d31 :: d32 :: .slice A1 l1.length c1 :: d34 :: .slice A2 l2.length c2 :: d36 :: u37 :: d38 :: d39 :: d40 :: d41 :: d42 :: d43 :: d44 :: d45 :: d46 :: d47 :: d48 :: d49 :: d50 :: d51 :: d52 :: d53 :: d54 :: d55 :: d56 :: d57 :: d58 :: d59 :: d60 :: d61 :: d62 :: d63 :: d64 :: d65 :: d66 :: d67 :: d68 :: d69 :: d70 :: d71 :: d72 :: d73 :: d74 :: d75 :: d76 :: d77 :: d78 :: d79 :: d80 :: d81 :: d82 :: d83 :: d84 :: d85 :: d86 :: d87 :: d88 :: d89 :: d90 :: d91 :: d92 :: d93 :: d94 :: d95 :: d96 :: d97 :: d98 :: d99 :: d100 :: d101 :: d102 :: d103 :: d104 :: d105 :: d106 :: d107 :: d108 :: d109 :: d110 :: d111 :: d112 :: d113 :: d114 :: d115 :: d116 :: d117 :: d118 :: d119 :: d120 :: d121 :: d122 :: d123 :: d124 :: d125 :: d126 :: d127 :: d128 :: d129 :: d130 :: d131 :: d132 :: d133 :: d134 :: d135 :: d136 :: d137 :: d138 :: d139 :: d140 :: d141 :: d142 :: d143 :: d144 :: d145 :: d146 :: d147 :: d148 :: d149 :: d150 :: d151 :: d152 :: d153 :: d154 :: d155 :: d156 :: d157 :: d158 :: d159 :: d160 :: d161 :: d162 :: d163 :: d164 :: d165 :: d166 :: d167 :: d168 :: d169 :: d170 :: d171 :: d172 :: d173 :: d174 :: d175 :: d176 :: d177 :: d178 :: d179 :: d180 :: d181 :: d182 :: d183 :: d184 :: d185 :: d186 :: d187 :: d188 :: d189 :: d190 :: d191 :: d192 :: d193 :: d194 :: d195 :: d196 :: d197 :: d198 :: d199 :: d200 :: d201 :: d202 :: d203 :: d204 :: d205 :: d206 :: d207 :: d208 :: d209 :: d210 :: d211 :: d212 :: d213 :: d214 :: d215 :: d216 :: d217 :: d218 :: d219 :: d220 :: d221 :: d222 :: d223 :: d224 :: d225 :: d226 :: d227 :: d228 :: d229 :: d230 :: d231 :: d232 :: d233 :: d234 :: d235 :: d236 :: d237 :: d238 :: d239 :: d240 :: d241 :: d242 :: d243 :: d244 :: d245 :: d246 :: d247 :: d248 :: d249 :: d250 :: d251 :: d252 :: d253 :: d254 :: d255 :: d256 :: d257 :: d258 :: d259 :: d260 :: d261 :: d262 :: d263 :: d264 :: d265 :: d266 :: d267 :: d268 :: d269 :: d270 :: .int .i64 (l1.length : Int) :: u272 :: u273 :: u274 :: u275 :: u276 :: u277 :: u278 :: u279 :: u280 :: u281 :: u282 :: u283 :: u284 :: u285 :: u286 :: u287 :: u288 :: u289 :: u290 :: u291 :: u292 :: u293 :: u294 :: u295 :: u296 :: u297 :: u298 :: d299 :: d300 :: d301 :: d302 :: d303 :: d304 :: d305 :: d306 :: d307 :: d308 :: d309 :: d310 :: d311 :: d312 :: d313 :: d314 :: d315 :: d316 :: d317 :: d318 :: d319 :: d320 :: d321 :: d322 :: d323 :: d324 :: d325 :: d326 :: d327 :: d328 :: d329 :: d330 :: d331 :: d332 :: d333 :: d334 :: d335 :: d336 :: d337 :: d338 :: d339 :: d340 :: d341 :: d342 :: d343 :: d344 :: d345 :: d346 :: d347 :: d348 :: d349 :: d350 :: d351 :: d352 :: d353 :: d354 :: d355 :: d356 :: d357 :: d358 :: d359 :: d360 :: d361 :: d362 :: d363 :: d364 :: d365 :: d366 :: d367 :: d368 :: d369 :: d370 :: d371 :: d372 :: d373 :: d374 :: d375 :: d376 :: d377 :: d378 :: d379 :: d380 :: d381 :: d382 :: d383 :: d384 :: d385 :: d386 :: d387 :: d388 :: d389 :: d390 :: d391 :: d392 :: d393 :: d394 :: d395 :: d396 :: d397 :: d398 :: d399 :: d400 :: d401 :: d402 :: d403 :: d404 :: d405 :: d406 :: d407 :: d408 :: d409 :: d410 :: d411 :: d412 :: d413 :: d414 :: d415 :: d416 :: d417 :: d418 :: d419 :: d420 :: []), []⟩ w') :
    Code.wp Try.prog (Code.loop bodyM) Q0 ⟨List.toArray (d0 :: d1 :: d2 :: d3 :: d4 :: d5 :: d6 :: d7 :: d8 :: d9 :: d10 :: d11 :: d12 :: d13 :: d14 :: d15 :: d16 :: d17 :: d18 :: d19 :: d20 :: d21 :: d22 :: d23 :: d24 :: d25 :: d26 :: d27 :: d28 :: d29 :: d30 :: d31 :: d32 :: .slice A1 l1.length c1 :: d34 :: .slice A2 l2.length c2 :: d36 :: d37 :: d38 :: d39 :: d40 :: d41 :: d42 :: d43 :: d44 :: d45 :: d46 :: d47 :: d48 :: d49 :: d50 :: d51 :: d52 :: d53 :: d54 :: d55 :: d56 :: d57 :: d58 :: d59 :: d60 :: d61 :: d62 :: d63 :: d64 :: d65 :: d66 :: d67 :: d68 :: d69 :: d70 :: d71 :: d72 :: d73 :: d74 :: d75 :: d76 :: d77 :: d78 :: d79 :: d80 :: d81 :: d82 :: d83 :: d84 :: d85 :: d86 :: d87 :: d88 :: d89 :: d90 :: d91 :: d92 :: d93 :: d94 :: d95 :: d96 :: d97 :: d98 :: d99 :: d100 :: d101 :: d102 :: d103 :: d104 :: d105 :: d106 :: d107 :: d108 :: d109 :: d110 :: d111 :: d112 :: d113 :: d114 :: d115 :: d116 :: d117 :: d118 :: d119 :: d120 :: d121 :: d122 :: d123 :: d124 :: d125 :: d126 :: d127 :: d128 :: d129 :: d130 :: d131 :: d132 :: d133 :: d134 :: d135 :: d136 :: d137 :: d138 :: d139 :: d140 :: d141 :: d142 :: d143 :: d144 :: d145 :: d146 :: d147 :: d148 :: d149 :: d150 :: d151 :: d152 :: d153 :: d154 :: d155 :: d156 :: d157 :: d158 :: d159 :: d160 :: d161 :: d162 :: d163 :: d164 :: d165 :: d166 :: d167 :: d168 :: d169 :: d170 :: d171 :: d172 :: d173 :: d174 :: d175 :: d176 :: d177 :: d178 :: d179 :: d180 :: d181 :: d182 :: d183 :: d184 :: d185 :: d186 :: d187 :: d188 :: d189 :: d190 :: d191 :: d192 :: d193 :: d194 :: d195 :: d196 :: d197 :: d198 :: d199 :: d200 :: d201 :: d202 :: d203 :: d204 :: d205 :: d206 :: d207 :: d208 :: d209 :: d210 :: d211 :: d212 :: d213 :: d214 :: d215 :: d216 :: d217 :: d218 :: d219 :: d220 :: d221 :: d222 :: d223 :: d224 :: d225 :: d226 :: d227 :: d228 :: d229 :: d230 :: d231 :: d232 :: d233 :: d234 :: d235 :: d236 :: d237 :: d238 :: d239 :: d240 :: d241 :: d242 :: d243 :: d244 :: d245 :: d246 :: d247 :: d248 :: d249 :: d250 :: d251 :: d252 :: d253 :: d254 :: d255 :: d256 :: d257 :: d258 :: d259 :: d260 :: d261 :: d262 :: d263 :: d264 :: d265 :: d266 :: d267 :: d268 :: d269 :: d270 :: .int .i64 (l1.length : Int) :: .int .i64 0 :: d273 :: d274 :: d275 :: d276 :: d277 :: d278 :: d279 :: d280 :: d281 :: d282 :: d283 :: d284 :: d285 :: d286 :: d287 :: d288 :: d289 :: d290 :: d291 :: d292 :: d293 :: d294 :: d295 :: d296 :: d297 :: d298 :: d299 :: d300 :: d301 :: d302 :: d303 :: d304 :: d305 :: d306 :: d307 :: d308 :: d309 :: d310 :: d311 :: d312 :: d313 :: d314 :: d315 :: d316 :: d317 :: d318 :: d319 :: d320 :: d321 :: d322 :: d323 :: d324 :: d325 :: d326 :: d327 :: d328 :: d329 :: d330 :: d331 :: d332 :: d333 :: d334 :: d335 :: d336 :: d337 :: d338 :: d339 :: d340 :: d341 :: d342 :: d343 :: d344 :: d345 :: d346 :: d347 :: d348 :: d349 :: d350 :: d351 :: d352 :: d353 :: d354 :: d355 :: d356 :: d357 :: d358 :: d359 :: d360 :: d361 :: d362 :: d363 :: d364 :: d365 :: d366 :: d367 :: d368 :: d369 :: d370 :: d371 :: d372 :: d373 :: d374 :: d375 :: d376 :: d377 :: d378 :: d379 :: d380 :: d381 :: d382 :: d383 :: d384 :: d385 :: d386 :: d387 :: d388 :: d389 :: d390 :: d391 :: d392 :: d393 :: d394 :: d395 :: d396 :: d397 :: d398 :: d399 :: d400 :: d401 :: d402 :: d403 :: d404 :: d405 :: d406 :: d407 :: d408 :: d409 :: d410 :: d411 :: d412 :: d413 :: d414 :: d415 :: d416 :: d417 :: d418 :: d419 :: d420 :: []), []⟩ wc := by
  have HX := Lib.hid hexit
  have HP0 := Lib.hid hP0
  have hl00 : (0 : Int) ≤ l1.length := by omega
  clear hexit hP0
  conv => arg 2; arg 1; whnf
  go_loopw [272] (fun i wr => ∃ k : Nat, k ≤ l1.length ∧ i = .int .i64 k ∧ Hid (Below wc.heap.size wc wr)) (fun i _ => l1.length - (intOf i).toNat)
  case atStart => exact ⟨0, Nat.zero_le _, rfl, Lib.hid (Below.refl wc.heap.size wc)⟩
  case round =>
    obtain ⟨k, hk, rfl, HW⟩ := hrel
    by_cases hlt : k < l1.length
    · obtain ⟨hle, hno⟩ := HLL.out.2 k hlt
      have hlt2 : k < l2.length := by omega
      obtain ⟨ba, oa, rfl, hba, hca⟩ := HP1.out (by intro e; rw [e] at hlt; simp at hlt)
      obtain ⟨bb, ob, rfl, hbb, hcb⟩ := HP2.out (by intro e; rw [e] at hlt2; simp at hlt2)
      have x0 := hca k hlt
      have y0 := hcb k hlt2
      rw [← HW.out.cell (p := ⟨ba, _, none⟩) hba] at x0
      rw [← HW.out.cell (p := ⟨bb, _, none⟩) hbb] at y0
      replace hno := hno l1[k] l2[k] (List.getElem?_eq_getElem hlt) (List.getElem?_eq_getElem hlt2)
      have hkl : (k : Int) < l1.length := by omega
      have hkl2 : (k : Int) < l2.length := by omega
      have hk0 : (0 : Int) ≤ k := by omega
      generalize l1[k] = xa at *
      generalize l2[k] = xb at *
      clear hca hcb hle
      by_cases hx : xa = -1
      · have hxq : (xa == -1) = true := by rw [beq_iff_eq]; exact hx
        have hxn : (xa != -1) = false := by rw [bne, hxq]; rfl
        clear hno
        go_wp2_with fail
        have HS0 := Lib.hid (And.intro x0 y0)
        replace HW := Lib.hid (HW.out.trans ((Below.refl wr.heap.size wr).drew.mono HW.out.size))
        refine wp_region_held_drew (S := fun W9 => W9.cell? ⟨ba, oa + k, none⟩ = some (.int .i64 xa) ∧ W9.cell? ⟨bb, ob + k, none⟩ = some (.int .i64 xb)) (by kernel_rfl) ⟨HS0.out.1, HS0.out.2⟩ (fun hH0 => ?_)
        generalize World.drew _ = V0 at *
        simp only [List.size_toArray, List.length_cons, List.length_nil, Nat.reduceAdd, Array.replicate_succ, Array.replicate_zero, List.push_toArray, List.nil_append, List.cons_append]
        refine wpAnyH_take (i := 0 ) (v := ?_) rfl (by kernel_rfl) (by kernel_rfl) (by kernel_rfl) (fun c1 a1 a2 h => HP0.out _ _ _ _ h) (Or.inl ⟨by rfl, ?_⟩) (by assumption) ?_; rotate_left; (· (intro w0 hSw; obtain ⟨q0, q1⟩ := hSw; go_simp); first | done | with_reducible rfl); (try simp only [Act.put, List.getElem_toArray, List.getElem_cons_zero, List.setIfInBounds_toArray, List.set_cons_zero, List.set_cons_succ])
        refine wpAnyH_take (i := 1 ) (v := ?_) rfl (by kernel_rfl) (by kernel_rfl) (by kernel_rfl) (fun c1 a1 a2 h => HP0.out _ _ _ _ h) (Or.inl ⟨by rfl, ?_⟩) (by assumption) ?_; rotate_left; (· (intro w0 hSw; obtain ⟨q0, q1⟩ := hSw; go_simp); first | done | with_reducible rfl); (try simp only [Act.put, List.getElem_toArray, List.getElem_cons_succ, List.getElem_cons_zero, List.setIfInBounds_toArray, List.set_cons_zero, List.set_cons_succ])
        refine wpAnyH_take (i := 2 ) (v := ?_) rfl (by kernel_rfl) (by kernel_rfl) (by kernel_rfl) (fun c1 a1 a2 h => HP0.out _ _ _ _ h) (Or.inl ⟨by rfl, ?_⟩) (by assumption) ?_; rotate_left; (· (intro w0 hSw; obtain ⟨q0, q1⟩ := hSw; go_simp); first | done | with_reducible rfl); (try simp only [Act.put, List.getElem_toArray, List.getElem_cons_succ, List.getElem_cons_zero, List.setIfInBounds_toArray, List.set_cons_zero, List.set_cons_succ])
        refine wpAnyH_take (i := 3 ) (v := ?_) rfl (by kernel_rfl) (by kernel_rfl) (by kernel_rfl) (fun c1 a1 a2 h => HP0.out _ _ _ _ h) (Or.inl ⟨by rfl, ?_⟩) (by assumption) ?_; rotate_left; (· (intro w0 hSw; obtain ⟨q0, q1⟩ := hSw; go_simp); first | done | with_reducible rfl); (try simp only [Act.put, List.getElem_toArray, List.getElem_cons_succ, List.getElem_cons_zero, List.setIfInBounds_toArray, List.set_cons_zero, List.set_cons_succ])
        refine wpAnyH_take (i := 4 ) (v := ?_) rfl (by kernel_rfl) (by kernel_rfl) (by kernel_rfl) (fun c1 a1 a2 h => HP0.out _ _ _ _ h) (Or.inl ⟨by rfl, ?_⟩) (by assumption) ?_; rotate_left; (· (intro w0 hSw; obtain ⟨q0, q1⟩ := hSw; go_simp); first | done | with_reducible rfl); (try simp only [Act.put, List.getElem_toArray, List.getElem_cons_succ, List.getElem_cons_zero, List.setIfInBounds_toArray, List.set_cons_zero, List.set_cons_succ])
        refine wpAnyH_take (i := 5 ) (v := ?_) rfl (by kernel_rfl) (by kernel_rfl) (by kernel_rfl) (fun c1 a1 a2 h => HP0.out _ _ _ _ h) (Or.inl ⟨by rfl, ?_⟩) (by assumption) ?_; rotate_left; (· (intro w0 hSw; obtain ⟨q0, q1⟩ := hSw; go_simp); first | done | with_reducible rfl); (try simp only [Act.put, List.getElem_toArray, List.getElem_cons_succ, List.getElem_cons_zero, List.setIfInBounds_toArray, List.set_cons_zero, List.set_cons_succ])
        refine wpAnyH_take (i := 6) (v := undef) rfl (by kernel_rfl) (by kernel_rfl) (by kernel_rfl) (fun _ _ _ h => HP0.out _ _ _ _ h) (Or.inr ⟨by rfl, rfl⟩) (by assumption) ?_; (try simp only [Act.put, List.getElem_toArray, List.getElem_cons_succ, List.getElem_cons_zero, List.setIfInBounds_toArray, List.set_cons_zero, List.set_cons_succ])
        refine wpAnyH_take (i := 7) (v := undef) rfl (by kernel_rfl) (by kernel_rfl) (by kernel_rfl) (fun _ _ _ h => HP0.out _ _ _ _ h) (Or.inr ⟨by rfl, rfl⟩) (by assumption) ?_; (try simp only [Act.put, List.getElem_toArray, List.getElem_cons_succ, List.getElem_cons_zero, List.setIfInBounds_toArray, List.set_cons_zero, List.set_cons_succ])
        refine wpAnyH_take (i := 8) (v := undef) rfl (by kernel_rfl) (by kernel_rfl) (by kernel_rfl) (fun _ _ _ h => HP0.out _ _ _ _ h) (Or.inr ⟨by rfl, rfl⟩) (by assumption) ?_; (try simp only [Act.put, List.getElem_toArray, List.getElem_cons_succ, List.getElem_cons_zero, List.setIfInBounds_toArray, List.set_cons_zero, List.set_cons_succ])
        refine wpAnyH_take (i := 9) (v := undef) rfl (by kernel_rfl) (by kernel_rfl) (by kernel_rfl) (fun _ _ _ h => HP0.out _ _ _ _ h) (Or.inr ⟨by rfl, rfl⟩) (by assumption) ?_; (try simp only [Act.put, List.getElem_toArray, List.getElem_cons_succ, List.getElem_cons_zero, List.setIfInBounds_toArray, List.set_cons_zero, List.set_cons_succ])
        refine wpAnyH_take (i := 10) (v := undef) rfl (by kernel_rfl) (by kernel_rfl) (by kernel_rfl) (fun _ _ _ h => HP0.out _ _ _ _ h) (Or.inr ⟨by rfl, rfl⟩) (by assumption) ?_; (try simp only [Act.put, List.getElem_toArray, List.getElem_cons_succ, List.getElem_cons_zero, List.setIfInBounds_toArray, List.set_cons_zero, List.set_cons_succ])
        refine wpAnyH_take (i := 11) (v := undef) rfl (by kernel_rfl) (by kernel_rfl) (by kernel_rfl) (fun _ _ _ h => HP0.out _ _ _ _ h) (Or.inr ⟨by rfl, rfl⟩) (by assumption) ?_; (try simp only [Act.put, List.getElem_toArray, List.getElem_cons_succ, List.getElem_cons_zero, List.setIfInBounds_toArray, List.set_cons_zero, List.set_cons_succ])
        refine wpAnyH_take (i := 12) (v := undef) rfl (by kernel_rfl) (by kernel_rfl) (by kernel_rfl) (fun _ _ _ h => HP0.out _ _ _ _ h) (Or.inr ⟨by rfl, rfl⟩) (by assumption) ?_; (try simp only [Act.put, List.getElem_toArray, List.getElem_cons_succ, List.getElem_cons_zero, List.setIfInBounds_toArray, List.set_cons_zero, List.set_cons_succ])
        refine wpAnyH_take (i := 13) (v := undef) rfl (by kernel_rfl) (by kernel_rfl) (by kernel_rfl) (fun _ _ _ h => HP0.out _ _ _ _ h) (Or.inr ⟨by rfl, rfl⟩) (by assumption) ?_; (try simp only [Act.put, List.getElem_toArray, List.getElem_cons_succ, List.getElem_cons_zero, List.setIfInBounds_toArray, List.set_cons_zero, List.set_cons_succ])
        refine wpAnyH_take (i := 14) (v := undef) rfl (by kernel_rfl) (by kernel_rfl) (by kernel_rfl) (fun _ _ _ h => HP0.out _ _ _ _ h) (Or.inr ⟨by rfl, rfl⟩) (by assumption) ?_; (try simp only [Act.put, List.getElem_toArray, List.getElem_cons_succ, List.getElem_cons_zero, List.setIfInBounds_toArray, List.set_cons_zero, List.set_cons_succ])
        refine wpAnyH_take (i := 15) (v := undef) rfl (by kernel_rfl) (by kernel_rfl) (by kernel_rfl) (fun _ _ _ h => HP0.out _ _ _ _ h) (Or.inr ⟨by rfl, rfl⟩) (by assumption) ?_; (try simp only [Act.put, List.getElem_toArray, List.getElem_cons_succ, List.getElem_cons_zero, List.setIfInBounds_toArray, List.set_cons_zero, List.set_cons_succ])
        refine wpAnyH_take (i := 16) (v := undef) rfl (by kernel_rfl) (by kernel_rfl) (by kernel_rfl) (fun _ _ _ h => HP0.out _ _ _ _ h) (Or.inr ⟨by rfl, rfl⟩) (by assumption) ?_; (try simp only [Act.put, List.getElem_toArray, List.getElem_cons_succ, List.getElem_cons_zero, List.setIfInBounds_toArray, List.set_cons_zero, List.set_cons_succ])
        refine wpAnyH_take (i := 17) (v := undef) rfl (by kernel_rfl) (by kernel_rfl) (by kernel_rfl) (fun _ _ _ h => HP0.out _ _ _ _ h) (Or.inr ⟨by rfl, rfl⟩) (by assumption) ?_; (try simp only [Act.put, List.getElem_toArray, List.getElem_cons_succ, List.getElem_cons_zero, List.setIfInBounds_toArray, List.set_cons_zero, List.set_cons_succ])
        refine wpAnyH_take (i := 18) (v := undef) rfl (by kernel_rfl) (by kernel_rfl) (by kernel_rfl) (fun _ _ _ h => HP0.out _ _ _ _ h) (Or.inr ⟨by rfl, rfl⟩) (by assumption) ?_; (try simp only [Act.put, List.getElem_toArray, List.getElem_cons_succ, List.getElem_cons_zero, List.setIfInBounds_toArray, List.set_cons_zero, List.set_cons_succ])
        refine wpAnyH_take (i := 19) (v := undef) rfl (by kernel_rfl) (by kernel_rfl) (by kernel_rfl) (fun _ _ _ h => HP0.out _ _ _ _ h) (Or.inr ⟨by rfl, rfl⟩) (by assumption) ?_; (try simp only [Act.put, List.getElem_toArray, List.getElem_cons_succ, List.getElem_cons_zero, List.setIfInBounds_toArray, List.set_cons_zero, List.set_cons_succ])
        refine wpAnyH_take (i := 20) (v := undef) rfl (by kernel_rfl) (by kernel_rfl) (by kernel_rfl) (fun _ _ _ h => HP0.out _ _ _ _ h) (Or.inr ⟨by rfl, rfl⟩) (by assumption) ?_; (try simp only [Act.put, List.getElem_toArray, List.getElem_cons_succ, List.getElem_cons_zero, List.setIfInBounds_toArray, List.set_cons_zero, List.set_cons_succ])
        refine wpAnyH_take (i := 21) (v := undef) rfl (by kernel_rfl) (by kernel_rfl) (by kernel_rfl) (fun _ _ _ h => HP0.out _ _ _ _ h) (Or.inr ⟨by rfl, rfl⟩) (by assumption) ?_; (try simp only [Act.put, List.getElem_toArray, List.getElem_cons_succ, List.getElem_cons_zero, List.setIfInBounds_toArray, List.set_cons_zero, List.set_cons_succ])
        refine wpAnyH_take (i := 22 ) (v := ?_) rfl (by kernel_rfl) (by kernel_rfl) (by kernel_rfl) (fun c1 a1 a2 h => HP0.out _ _ _ _ h) (Or.inl ⟨by rfl, ?_⟩) (by assumption) ?_; rotate_left; (· (intro w0 hSw; obtain ⟨q0, q1⟩ := hSw; go_simp); first | done | with_reducible rfl); (try simp only [Act.put, List.getElem_toArray, List.getElem_cons_succ, List.getElem_cons_zero, List.setIfInBounds_toArray, List.set_cons_zero, List.set_cons_succ])
        refine wpAnyH_done (by kernel_rfl) ?_ _
        go_wp2_with fail
        go_roundw
        case rel => exact ⟨k + 1, by omega, by go_num, HW⟩
        case measure => first | exact meas_lt hlt | (simp [intOf]; omega)
      · obtain ⟨hb1, hb2⟩ := hno hx
        have hxq : (xa == -1) = false := by rw [beq_eq_false_iff_ne]; exact hx
        have hxn : (xa != -1) = true := by rw [bne, hxq]; rfl
        have hyq : (xb == -1) = false := by rw [beq_eq_false_iff_ne]; exact hb1
        have hlx : ¬ xa < xb := by omega
        go_wp2_with fail
        have HS0 := Lib.hid (And.intro x0 y0)
        replace HW := Lib.hid (HW.out.trans ((Below.refl wr.heap.size wr).drew.mono HW.out.size))
        refine wp_region_held_drew (S := fun W9 => W9.cell? ⟨ba, oa + k, none⟩ = some (.int .i64 xa) ∧ W9.cell? ⟨bb, ob + k, none⟩ = some (.int .i64 xb)) (by kernel_rfl) ⟨HS0.out.1, HS0.out.2⟩ (fun hH0 => ?_)
        generalize World.drew _ = V0 at *
        simp only [List.size_toArray, List.length_cons, List.length_nil, Nat.reduceAdd, Array.replicate_succ, Array.replicate_zero, List.push_toArray, List.nil_append, List.cons_append]
        refine wpAnyH_take (i := 0 ) (v := ?_) rfl (by kernel_rfl) (by kernel_rfl) (by kernel_rfl) (fun c1 a1 a2 h => HP0.out _ _ _ _ h) (Or.inl ⟨by rfl, ?_⟩) (by assumption) ?_; rotate_left; (· (intro w0 hSw; obtain ⟨q0, q1⟩ := hSw; go_simp); first | done | with_reducible rfl); (try simp only [Act.put, List.getElem_toArray, List.getElem_cons_zero, List.setIfInBounds_toArray, List.set_cons_zero, List.set_cons_succ])
        refine wpAnyH_take (i := 1 ) (v := ?_) rfl (by kernel_rfl) (by kernel_rfl) (by kernel_rfl) (fun c1 a1 a2 h => HP0.out _ _ _ _ h) (Or.inl ⟨by rfl, ?_⟩) (by assumption) ?_; rotate_left; (· (intro w0 hSw; obtain ⟨q0, q1⟩ := hSw; go_simp); first | done | with_reducible rfl); (try simp only [Act.put, List.getElem_toArray, List.getElem_cons_succ, List.getElem_cons_zero, List.setIfInBounds_toArray, List.set_cons_zero, List.set_cons_succ])
        refine wpAnyH_take (i := 2 ) (v := ?_) rfl (by kernel_rfl) (by kernel_rfl) (by kernel_rfl) (fun c1 a1 a2 h => HP0.out _ _ _ _ h) (Or.inl ⟨by rfl, ?_⟩) (by assumption) ?_; rotate_left; (· (intro w0 hSw; obtain ⟨q0, q1⟩ := hSw; go_simp); first | done | with_reducible rfl); (try simp only [Act.put, List.getElem_toArray, List.getElem_cons_succ, List.getElem_cons_zero, List.setIfInBounds_toArray, List.set_cons_zero, List.set_cons_succ])
        refine wpAnyH_take (i := 3 ) (v := ?_) rfl (by kernel_rfl) (by kernel_rfl) (by kernel_rfl) (fun c1 a1 a2 h => HP0.out _ _ _ _ h) (Or.inl ⟨by rfl, ?_⟩) (by assumption) ?_; rotate_left; (· (intro w0 hSw; obtain ⟨q0, q1⟩ := hSw; go_simp); first | done | with_reducible rfl); (try simp only [Act.put, List.getElem_toArray, List.getElem_cons_succ, List.getElem_cons_zero, List.setIfInBounds_toArray, List.set_cons_zero, List.set_cons_succ])
        refine wpAnyH_take (i := 4 ) (v := ?_) rfl (by kernel_rfl) (by kernel_rfl) (by kernel_rfl) (fun c1 a1 a2 h => HP0.out _ _ _ _ h) (Or.inl ⟨by rfl, ?_⟩) (by assumption) ?_; rotate_left; (· (intro w0 hSw; obtain ⟨q0, q1⟩ := hSw; go_simp); first | done | with_reducible rfl); (try simp only [Act.put, List.getElem_toArray, List.getElem_cons_succ, List.getElem_cons_zero, List.setIfInBounds_toArray, List.set_cons_zero, List.set_cons_succ])
        refine wpAnyH_take (i := 5 ) (v := ?_) rfl (by kernel_rfl) (by kernel_rfl) (by kernel_rfl) (fun c1 a1 a2 h => HP0.out _ _ _ _ h) (Or.inl ⟨by rfl, ?_⟩) (by assumption) ?_; rotate_left; (· (intro w0 hSw; obtain ⟨q0, q1⟩ := hSw; go_simp); first | done | with_reducible rfl); (try simp only [Act.put, List.getElem_toArray, List.getElem_cons_succ, List.getElem_cons_zero, List.setIfInBounds_toArray, List.set_cons_zero, List.set_cons_succ])
        refine wpAnyH_take (i := 6 ) (v := ?_) rfl (by kernel_rfl) (by kernel_rfl) (by kernel_rfl) (fun c1 a1 a2 h => HP0.out _ _ _ _ h) (Or.inl ⟨by rfl, ?_⟩) (by assumption) ?_; rotate_left; (· (intro w0 hSw; obtain ⟨q0, q1⟩ := hSw; go_simp); first | done | with_reducible rfl); (try simp only [Act.put, List.getElem_toArray, List.getElem_cons_succ, List.getElem_cons_zero, List.setIfInBounds_toArray, List.set_cons_zero, List.set_cons_succ])
        refine wpAnyH_take (i := 7 ) (v := ?_) rfl (by kernel_rfl) (by kernel_rfl) (by kernel_rfl) (fun c1 a1 a2 h => HP0.out _ _ _ _ h) (Or.inl ⟨by rfl, ?_⟩) (by assumption) ?_; rotate_left; (· (intro w0 hSw; obtain ⟨q0, q1⟩ := hSw; go_simp); first | done | with_reducible rfl); (try simp only [Act.put, List.getElem_toArray, List.getElem_cons_succ, List.getElem_cons_zero, List.setIfInBounds_toArray, List.set_cons_zero, List.set_cons_succ])
        refine wpAnyH_take (i := 8 ) (v := ?_) rfl (by kernel_rfl) (by kernel_rfl) (by kernel_rfl) (fun c1 a1 a2 h => HP0.out _ _ _ _ h) (Or.inl ⟨by rfl, ?_⟩) (by assumption) ?_; rotate_left; (· (intro w0 hSw; obtain ⟨q0, q1⟩ := hSw; go_simp); first | done | with_reducible rfl); (try simp only [Act.put, List.getElem_toArray, List.getElem_cons_succ, List.getElem_cons_zero, List.setIfInBounds_toArray, List.set_cons_zero, List.set_cons_succ])
        refine wpAnyH_take (i := 9 ) (v := ?_) rfl (by kernel_rfl) (by kernel_rfl) (by kernel_rfl) (fun c1 a1 a2 h => HP0.out _ _ _ _ h) (Or.inl ⟨by rfl, ?_⟩) (by assumption) ?_; rotate_left; (· (intro w0 hSw; obtain ⟨q0, q1⟩ := hSw; go_simp); first | done | with_reducible rfl); (try simp only [Act.put, List.getElem_toArray, List.getElem_cons_succ, List.getElem_cons_zero, List.setIfInBounds_toArray, List.set_cons_zero, List.set_cons_succ])
        refine wpAnyH_take (i := 10 ) (v := ?_) rfl (by kernel_rfl) (by kernel_rfl) (by kernel_rfl) (fun c1 a1 a2 h => HP0.out _ _ _ _ h) (Or.inl ⟨by rfl, ?_⟩) (by assumption) ?_; rotate_left; (· (intro w0 hSw; obtain ⟨q0, q1⟩ := hSw; go_simp); first | done | with_reducible rfl); (try simp only [Act.put, List.getElem_toArray, List.getElem_cons_succ, List.getElem_cons_zero, List.setIfInBounds_toArray, List.set_cons_zero, List.set_cons_succ])
        refine wpAnyH_take (i := 11 ) (v := ?_) rfl (by kernel_rfl) (by kernel_rfl) (by kernel_rfl) (fun c1 a1 a2 h => HP0.out _ _ _ _ h) (Or.inl ⟨by rfl, ?_⟩) (by assumption) ?_; rotate_left; (· (intro w0 hSw; obtain ⟨q0, q1⟩ := hSw; go_simp); first | done | with_reducible rfl); (try simp only [Act.put, List.getElem_toArray, List.getElem_cons_succ, List.getElem_cons_zero, List.setIfInBounds_toArray, List.set_cons_zero, List.set_cons_succ])
        refine wpAnyH_take (i := 12 ) (v := ?_) rfl (by kernel_rfl) (by kernel_rfl) (by kernel_rfl) (fun c1 a1 a2 h => HP0.out _ _ _ _ h) (Or.inl ⟨by rfl, ?_⟩) (by assumption) ?_; rotate_left; (· (intro w0 hSw; obtain ⟨q0, q1⟩ := hSw; go_simp); first | done | with_reducible rfl); (try simp only [Act.put, List.getElem_toArray, List.getElem_cons_succ, List.getElem_cons_zero, List.setIfInBounds_toArray, List.set_cons_zero, List.set_cons_succ])
        refine wpAnyH_take (i := 13 ) (v := ?_) rfl (by kernel_rfl) (by kernel_rfl) (by kernel_rfl) (fun c1 a1 a2 h => HP0.out _ _ _ _ h) (Or.inl ⟨by rfl, ?_⟩) (by assumption) ?_; rotate_left; (· (intro w0 hSw; obtain ⟨q0, q1⟩ := hSw; go_simp); first | done | with_reducible rfl); (try simp only [Act.put, List.getElem_toArray, List.getElem_cons_succ, List.getElem_cons_zero, List.setIfInBounds_toArray, List.set_cons_zero, List.set_cons_succ])
        refine wpAnyH_take (i := 14 ) (v := ?_) rfl (by kernel_rfl) (by kernel_rfl) (by kernel_rfl) (fun c1 a1 a2 h => HP0.out _ _ _ _ h) (Or.inl ⟨by rfl, ?_⟩) (by assumption) ?_; rotate_left; (· (intro w0 hSw; obtain ⟨q0, q1⟩ := hSw; go_simp); first | done | with_reducible rfl); (try simp only [Act.put, List.getElem_toArray, List.getElem_cons_succ, List.getElem_cons_zero, List.setIfInBounds_toArray, List.set_cons_zero, List.set_cons_succ])
        refine wpAnyH_take (i := 15 ) (v := ?_) rfl (by kernel_rfl) (by kernel_rfl) (by kernel_rfl) (fun c1 a1 a2 h => HP0.out _ _ _ _ h) (Or.inl ⟨by rfl, ?_⟩) (by assumption) ?_; rotate_left; (· (intro w0 hSw; obtain ⟨q0, q1⟩ := hSw; go_simp); first | done | with_reducible rfl); (try simp only [Act.put, List.getElem_toArray, List.getElem_cons_succ, List.getElem_cons_zero, List.setIfInBounds_toArray, List.set_cons_zero, List.set_cons_succ])
        refine wpAnyH_take (i := 16 ) (v := ?_) rfl (by kernel_rfl) (by kernel_rfl) (by kernel_rfl) (fun c1 a1 a2 h => HP0.out _ _ _ _ h) (Or.inl ⟨by rfl, ?_⟩) (by assumption) ?_; rotate_left; (· (intro w0 hSw; obtain ⟨q0, q1⟩ := hSw; go_simp); first | done | with_reducible rfl); (try simp only [Act.put, List.getElem_toArray, List.getElem_cons_succ, List.getElem_cons_zero, List.setIfInBounds_toArray, List.set_cons_zero, List.set_cons_succ])
        refine wpAnyH_take (i := 17 ) (v := ?_) rfl (by kernel_rfl) (by kernel_rfl) (by kernel_rfl) (fun c1 a1 a2 h => HP0.out _ _ _ _ h) (Or.inl ⟨by rfl, ?_⟩) (by assumption) ?_; rotate_left; (· (intro w0 hSw; obtain ⟨q0, q1⟩ := hSw; go_simp); first | done | with_reducible rfl); (try simp only [Act.put, List.getElem_toArray, List.getElem_cons_succ, List.getElem_cons_zero, List.setIfInBounds_toArray, List.set_cons_zero, List.set_cons_succ])
        refine wpAnyH_take (i := 18 ) (v := ?_) rfl (by kernel_rfl) (by kernel_rfl) (by kernel_rfl) (fun c1 a1 a2 h => HP0.out _ _ _ _ h) (Or.inl ⟨by rfl, ?_⟩) (by assumption) ?_; rotate_left; (· (intro w0 hSw; obtain ⟨q0, q1⟩ := hSw; go_simp); first | done | with_reducible rfl); (try simp only [Act.put, List.getElem_toArray, List.getElem_cons_succ, List.getElem_cons_zero, List.setIfInBounds_toArray, List.set_cons_zero, List.set_cons_succ])
        refine wpAnyH_take (i := 19 ) (v := ?_) rfl (by kernel_rfl) (by kernel_rfl) (by kernel_rfl) (fun c1 a1 a2 h => HP0.out _ _ _ _ h) (Or.inl ⟨by rfl, ?_⟩) (by assumption) ?_; rotate_left; (· (intro w0 hSw; obtain ⟨q0, q1⟩ := hSw; go_simp); first | done | with_reducible rfl); (try simp only [Act.put, List.getElem_toArray, List.getElem_cons_succ, List.getElem_cons_zero, List.setIfInBounds_toArray, List.set_cons_zero, List.set_cons_succ])
        refine wpAnyH_take (i := 20 ) (v := ?_) rfl (by kernel_rfl) (by kernel_rfl) (by kernel_rfl) (fun c1 a1 a2 h => HP0.out _ _ _ _ h) (Or.inl ⟨by rfl, ?_⟩) (by assumption) ?_; rotate_left; (· (intro w0 hSw; obtain ⟨q0, q1⟩ := hSw; go_simp); first | done | with_reducible rfl); (try simp only [Act.put, List.getElem_toArray, List.getElem_cons_succ, List.getElem_cons_zero, List.setIfInBounds_toArray, List.set_cons_zero, List.set_cons_succ])
        refine wpAnyH_take (i := 21 ) (v := ?_) rfl (by kernel_rfl) (by kernel_rfl) (by kernel_rfl) (fun c1 a1 a2 h => HP0.out _ _ _ _ h) (Or.inl ⟨by rfl, ?_⟩) (by assumption) ?_; rotate_left; (· (intro w0 hSw; obtain ⟨q0, q1⟩ := hSw; go_simp); first | done | with_reducible rfl); (try simp only [Act.put, List.getElem_toArray, List.getElem_cons_succ, List.getElem_cons_zero, List.setIfInBounds_toArray, List.set_cons_zero, List.set_cons_succ])
        refine wpAnyH_take (i := 22 ) (v := ?_) rfl (by kernel_rfl) (by kernel_rfl) (by kernel_rfl) (fun c1 a1 a2 h => HP0.out _ _ _ _ h) (Or.inl ⟨by rfl, ?_⟩) (by assumption) ?_; rotate_left; (· (intro w0 hSw; obtain ⟨q0, q1⟩ := hSw; go_simp); first | done | with_reducible rfl); (try simp only [Act.put, List.getElem_toArray, List.getElem_cons_succ, List.getElem_cons_zero, List.setIfInBounds_toArray, List.set_cons_zero, List.set_cons_succ])
        refine wpAnyH_done (by kernel_rfl) ?_ _
        go_wp2_with fail
        go_roundw
        case rel => exact ⟨k + 1, by omega, by go_num, HW⟩
        case measure => first | exact meas_lt hlt | (simp [intOf]; omega)
    · obtain rfl : l1.length = k := by omega
      have hlt' : ¬ (l1.length : Int) < l1.length := by omega
      go_wp2_with fail
      exact HX.out _ _ _ _ _ _ _ _ _ _ _ _ _ _ _ _ _ _ _ _ _ _ _ _ _ _ _ _ _ _ HW
set_option maxRecDepth 100000 in
set_option maxHeartbeats 16000000 in
theorem more_tail (w : World) (A B : Option Addr) (ca cb : Nat) (j : Jig) (a b : Slat) (l u : List Slat) (lim : Int) (r : Nat) (wr : World) (hl : l.length < 7) (hu : u.length < 7) (hA : SlatSl w w.heap.size A l) (hB : SlatSl w w.heap.size B u) (hAn : A = none → l.length = 0 ∧ ca = 0) (hBn : B = none → u.length = 0 ∧ cb = 0) (hr : r ≤ 255) (hak : slatOk a = true) (hbk : slatOk b = true) (HS : Hid (MrB w j a b wr))
    (K : Act → World → Prop) (hK : ∀ a' w', Code.wp Try.prog tail31 (bodyPost Try.prog Try.f9 (Ret (.bool true) w)) a' w' → K a' w')
    (c0 c1 c2 c3 c11 c12 c13 c14 c15 c16 c17 c18 c19 c20 c21 c22 c23 c24 c25 c26 c27 c28 c29 c30 c31 c32 c33 c34 c35 c36 c37 c38 c39 c40 c41 c42 c43 c44 c45 c46 c47 c48 c49 c50 c51 c52 c53 c54 c55 c56 c57 c58 c59 c60 c61 c62 c63 c64 c65 c66 c67 c68 c69 c70 c71 c72 c73 c74 c75 c76 c77 c78 c79 c80 c81 c82 c83 c84 c85 c86 c87 c88 c89 c90 c91 c92 c93 c94 c95 c96 c97 c98 c99 c100 c101 c102 c103 c104 c105 c106 c107 c108 c109 c110 c111 c112 c113 c114 c115 c116 c117 c118 c119 c120 c121 c122 c123 c124 c125 c126 c127 c128 c129 c130 c131 c132 c133 c134 c135 c136 c137 c138 c139 c140 c141 c142 c143 c144 c145 c146 c147 c148 c149 c150 c151 c152 c153 c154 c155 c156 c157 c158 c159 c160 c161 c162 c163 c164 c165 c166 c167 c168 c169 c170 c171 c172 c173 c174 c175 c176 c177 c178 c179 c180 c181 c182 c183 c184 c185 c186 c187 c188 c189 c190 c191 c192 c193 c194 c195 c196 c197 c198 c199 c200 c201 c202 c203 c204 c205 c206 c207 c208 c209 c210 c211 c212 c213 c214 c215 c216 c217 c218 c219 c220 c221 c222 c223 c224 c225 c226 c227 c228 c229 c230 c231 c232 c233 c234 c235 c236 c237 c238 c239 c240 c241 c242 c243 c244 c245 c246 c247 c248 c249 c250 c251 c252 c253 c254 c255 c256 c257 c258 c259 c260 c261 c262 c263 c264 c265 c266 c267 c268 c269 c270 c271 c272 c273 c274 c275 c276 c277 c278 c279 c280 c281 c282 c283 c284 c285 c286 c287 c288 c289 c290 c291 c292 c293 c294 c295 c296 c297 c298 c299 c300 c301 c302 c303 c304 c305 c306 c307 c308 c309 c310 c311 c312 c313 c314 c315 c316 c317 c318 c319 c320 c321 c322 c323 c324 c325 c326 c327 c328 c329 c330 c331 c332 c333 c334 c335 c336 c337 c338 c339 c340 c341 c342 c343 c344 c345 c346 c347 c348 c349 c350 c351 c352 c353 c354 c355 c356 c357 c358 c359 c360 c361 c362 c363 c364 c365 c366 c367 c368 c369 c370 c371 c372 c373 c374 c375 c376 c377 c378 c379 c380 c381 c382 c383 c384 c385 c386 c387 c388 c389 c390 c391 c392 c393 c394 c395 c396 c397 c398 c399 c400 c401 c402 c403 c404 c405 c406 c407 c408 c409 c410 c411 c412 c413 c414 c415 c416 c417 c418 c419 c420 : Value) :
    Code.wp Try.prog reg30 (Exit.then K (bodyPost Try.prog Try.f9 (Ret (.bool true) w))) ⟨List.toArray (c0 :: c1 :: c2 :: c3 :: .slice A l.length ca :: .slice B u.length cb :: .int .i64 lim :: .int .u8 (r : Int) :: .pointer (some ⟨w.heap.size, 0, none⟩) :: .pointer (some ⟨w.heap.size + 1, 0, none⟩) :: .pointer (some ⟨w.heap.size + 1 + 1, 0, none⟩) :: c11 :: c12 :: c13 :: c14 :: c15 :: c16 :: c17 :: c18 :: c19 :: c20 :: c21 :: c22 :: c23 :: c24 :: c25 :: c26 :: c27 :: c28 :: c29 :: c30 :: c31 :: c32 :: c33 :: c34 :: c35 :: c36 :: c37 :: c38 :: c39 :: c40 :: c41 :: c42 :: c43 :: c44 :: c45 :: c46 :: c47 :: c48 :: c49 :: c50 :: c51 :: c52 :: c53 :: c54 :: c55 :: c56 :: c57 :: c58 :: c59 :: c60 :: c61 :: c62 :: c63 :: c64 :: c65 :: c66 :: c67 :: c68 :: c69 :: c70 :: c71 :: c72 :: c73 :: c74 :: c75 :: c76 :: c77 :: c78 :: c79 :: c80 :: c81 :: c82 :: c83 :: c84 :: c85 :: c86 :: c87 :: c88 :: c89 :: c90 :: c91 :: c92 :: c93 :: c94 :: c95 :: c96 :: c97 :: c98 :: c99 :: c100 :: c101 :: c102 :: c103 :: c104 :: c105 :: c106 :: c107 :: c108 :: c109 :: c110 :: c111 :: c112 :: c113 :: c114 :: c115 :: c116 :: c117 :: c118 :: c119 :: c120 :: c121 :: c122 :: c123 :: c124 :: c125 :: c126 :: c127 :: c128 :: c129 :: c130 :: c131 :: c132 :: c133 :: c134 :: c135 :: c136 :: c137 :: c138 :: c139 :: c140 :: c141 :: c142 :: c143 :: c144 :: c145 :: c146 :: c147 :: c148 :: c149 :: c150 :: c151 :: c152 :: c153 :: c154 :: c155 :: c156 :: c157 :: c158 :: c159 :: c160 :: c161 :: c162 :: c163 :: c164 :: c165 :: c166 :: c167 :: c168 :: c169 :: c170 :: c171 :: c172 :: c173 :: c174 :: c175 :: c176 :: c177 :: c178 :: c179 :: c180 :: c181 :: c182 :: c183 :: c184 :: c185 :: c186 :: c187 :: c188 :: c189 :: c190 :: c191 :: c192 :: c193 :: c194 :: c195 :: c196 :: c197 :: c198 :: c199 :: c200 :: c201 :: c202 :: c203 :: c204 :: c205 :: c206 :: c207 :: c208 :: c209 :: c210 :: c211 :: c212 :: c213 :: c214 :: c215 :: c216 :: c217 :: c218 :: c219 :: c220 :: c221 :: c222 :: c223 :: c224 :: c225 :: c226 :: c227 :: c228 :: c229 :: c230 :: c231 :: c232 :: c233 :: c234 :: c235 :: c236 :: c237 :: c238 :: c239 :: c240 :: c241 :: c242 :: c243 :: c244 :: c245 :: c246 :: c247 :: c248 :: c249 :: c250 :: c251 :: c252 :: c253 :: c254 :: c255 :: c256 :: c257 :: c258 :: c259 :: c260 :: c261 :: c262 :: c263 :: c264 :: c265 :: c266 :: c267 :: c268 :: c269 :: c270 :: c271 :: c272 :: c273 :: c274 :: c275 :: c276 :: c277 :: c278 :: c279 :: c280 :: c281 :: c282 :: c283 :: c284 :: c285 :: c286 :: c287 :: c288 :: c289 :: c290 :: c291 :: c292 :: c293 :: c294 :: c295 :: c296 :: c297 :: c298 :: c299 :: c300 :: c301 :: c302 :: c303 :: c304 :: c305 :: c306 :: c307 :: c308 :: c309 :: c310 :: c311 :: c312 :: c313 :: c314 :: c315 :: c316 :: c317 :: c318 :: c319 :: c320 :: c321 :: c322 :: c323 :: c324 :: c325 :: c326 :: c327 :: c328 :: c329 :: c330 :: c331 :: c332 :: c333 :: c334 :: c335 :: c336 :: c337 :: c338 :: c339 :: c340 :: c341 :: c342 :: c343 :: c344 :: c345 :: c346 :: c347 :: c348 :: c349 :: c350 :: c351 :: c352 :: c353 :: c354 :: c355 :: c356 :: c357 :: c358 :: c359 :: c360 :: c361 :: c362 :: c363 :: c364 :: c365 :: c366 :: c367 :: c368 :: c369 :: c370 :: c371 :: c372 :: c373 :: c374 :: c375 :: c376 :: c377 :: c378 :: c379 :: c380 :: c381 :: c382 :: c383 :: c384 :: c385 :: c386 :: c387 :: c388 :: c389 :: c390 :: c391 :: c392 :: c393 :: c394 :: c395 :: c396 :: c397 :: c398 :: c399 :: c400 :: c401 :: c402 :: c403 :: c404 :: c405 :: c406 :: c407 :: c408 :: c409 :: c410 :: c411 :: c412 :: c413 :: c414 :: c415 :: c416 :: c417 :: c418 :: c419 :: c420 :: []), []⟩ wr := by
  have HA := Lib.hid hA
  have HBB := Lib.hid hB
  have HAN := Lib.hid hAn
  have HBN := Lib.hid hBn
  have hl' : (l.length : Int) < 7 := by omega
  have hl0 : (0 : Int) ≤ l.length := by omega
  have hu' : (u.length : Int) < 7 := by omega
  have hu0 : (0 : Int) ≤ u.length := by omega
  obtain ⟨p0, hp0⟩ : ∃ v, (pairR j l u lim).1.2 = v := ⟨_, rfl⟩
  obtain ⟨z0, hz0⟩ : ∃ v, (pairR j l u lim).2 = v := ⟨_, rfl⟩
  have HE0 : Hid (z0 ≠ 0 → p0 = 0) := Lib.hid fun h => by
    rw [← hz0] at h
    rw [← hp0]
    unfold pairR at h ⊢
    split
    · rename_i h1; rw [if_pos h1] at h; exact absurd rfl h
    · rfl
  have HEE : Hid (z0 = 0 → pairE j l u lim = 0) := Lib.hid fun h => by
    rw [← hz0] at h
    unfold pairR at h
    split at h
    · assumption
    · exact h
  have HP0 := Lib.hid fun W (hW : Below w.heap.size w W) => pair_ret (ca := ca) (cb := cb) (j := j) (by omega) (by omega) (HA.out.on hW (Nat.le_refl _)) (HBB.out.on hW (Nat.le_refl _)) rfl rfl hp0 hz0
  have HZP := Lib.hid (And.intro hp0 hz0)
  clear hA hB hAn hBn hp0 hz0
  have KJ := Lib.hid HS.out.k4
  conv => arg 2; whnf
  conv at hK => enter [a', w', 1, 2]; whnf
  go_wp2_with (with_reducible refine wpList_load_mid (by with_unfolding_all rfl) 25 _ (by with_unfolding_all rfl) _ _ (by with_unfolding_all rfl) [.int .i64 j.glue.lo, .int .i64 j.glue.hi, .int .i64 j.lead.lo, .int .i64 j.lead.hi, .int .i64 j.side.lo, .int .i64 j.side.hi, .int .i64 j.height.lo, .int .i64 j.height.hi, .int .i64 j.play, .int .i64 j.grooves] _ KJ.out.range (by with_unfolding_all rfl) (by with_unfolding_all rfl) (by kernel_rfl) ?_)
  refine (HP0.out _ HS.out.hb).mono ?_
  rintro e W1 ⟨v38, rfl, hb⟩
  replace HS := Lib.hid (HS.out.call hb)
  clear hb KJ HP0
  by_cases hz : z0 = 0
  · subst hz
    obtain ⟨-, -, -, k5, -⟩ := slErr_0 (HEE.out rfl)
    have HLI := Lib.hid (lims_in k5 lim (by simp))
    clear k5
    obtain ⟨⟨m1, m2⟩, ⟨m3, m4⟩, ⟨m5, m6⟩, m7, m8⟩ := more_pairs (HEE.out rfl) hak hbk hl hu (show (0 : Int) ≤ r by omega) r
    rw [HZP.out.1] at m2 m4 m6 m8
    obtain ⟨q1, hq1⟩ : ∃ v, (pairR j (l ++ [a]) u lim).1.2 = v := ⟨_, rfl⟩
    obtain ⟨q2, hq2⟩ : ∃ v, (pairR j l (u ++ [b]) lim).1.2 = v := ⟨_, rfl⟩
    obtain ⟨q3, hq3⟩ : ∃ v, (pairR j l u (min 1000 (lim + (r : Int)))).1.2 = v := ⟨_, rfl⟩
    have HP1 := Lib.hid fun W A' c' (hW : Below w.heap.size w W) (h9 : SlatSl W W.heap.size A' (l ++ [a])) => pair_ret (n := l.length + 1) (ca := c') (cb := cb) (j := j) (by simp; omega) (by omega) h9 (HBB.out.on hW (Nat.le_refl _)) (by simp) rfl hq1 m1
    have HP2 := Lib.hid fun W A' c' (hW : Below w.heap.size w W) (h9 : SlatSl W W.heap.size A' (u ++ [b])) => pair_ret (m := u.length + 1) (ca := ca) (cb := c') (j := j) (by omega) (by simp; omega) (HA.out.on hW (Nat.le_refl _)) h9 rfl (by simp) hq2 m3
    have HP3 := Lib.hid fun W (hW : Below w.heap.size w W) => pair_ret (ca := ca) (cb := cb) (j := j) (by omega) (by omega) (HA.out.on hW (Nat.le_refl _)) (HBB.out.on hW (Nat.le_refl _)) rfl rfl hq3 m5
    have HP4 := Lib.hid fun W A' c' (hW : Below w.heap.size w W) (h9 : SlatSl W W.heap.size A' (rotL u r)) => pair_ret (ca := ca) (cb := c') (j := j) (by omega) (by rw [rotL_len]; omega) (HA.out.on hW (Nat.le_refl _)) h9 rfl (rotL_len u r).symm m8 m7
    rw [hq1] at m2
    rw [hq2] at m4
    rw [hq3] at m6
    have m2' : ¬ q1 < p0 := by omega
    have m4' : ¬ q2 < p0 := by omega
    have m6' : ¬ q3 < p0 := by omega
    have HM := Lib.hid (And.intro m2 (And.intro m4 m6))
    have HM2 := Lib.hid (And.intro m2' (And.intro m4' m6'))
    clear m1 m2 m3 m4 m5 m6 m7 m8 m2' m4' m6' hq1 hq2 hq3 HE0 HEE HZP
    have wlr : IntKind.i64.wrap (r : Int) = r := IntWalk.i64_in _ ⟨by omega, by omega⟩
    have hr0 : (0 : Int) ≤ r := by omega
    have hr1 : (r : Int) ≤ 255 := by omega
    have HW1 : Hid (W1.heap.size ≤ W1.heap.size) := Lib.hid (Nat.le_refl _)
    obtain ⟨i0, hi, hz0, hz1, hz2⟩ := info_parts slatInfo
    go_wp2_with fail
    go_loopw [41, 317] (fun v i wr => ∃ k : Nat, k ≤ u.length ∧ i = .int .i64 k ∧ Hid (wr.ownsRow W1.heap.size 37 8 v k (slatsV ((rotL u r).take k))) ∧ Hid (MrB w j a b wr) ∧ Hid (W1.heap.size ≤ wr.heap.size)) (fun _ i _ => u.length - (intOf i).toNat)
    case atStart => exact ⟨0, Nat.zero_le _, rfl, Lib.hid (World.ownsRow_nil _ _ _ _), HS, HW1⟩
    case round =>
      have HLT := Lib.hid HS.out.k6.lt
      clear HS HW1
      obtain ⟨k, hk, rfl, HO, HS, HW1⟩ := hrel
      by_cases hlt : k < u.length
      · as_aux_lemma =>
          obtain ⟨bB, oB, rfl, hbB, hs⟩ := HBB.out (by intro e; subst e; simp at hlt)
          have hj := Nat.mod_lt (k + r) (show 0 < u.length by omega)
          have HRS := Lib.hid (range_low (slats_range hs hj rfl) HS.out.hb hbB)
          have HNX := Lib.hid (rot_next u r k hlt (List.getElem?_eq_getElem hj))
          generalize u[(k + r) % u.length] = s at HRS HNX
          have r0 : ((k : Int) + (r : Int)).tmod (u.length : Int) = (((k + r) % u.length : Nat) : Int) := by rw [Int.tmod_eq_emod_of_nonneg (by omega)]; rfl
          have r1 : ((k : Int) + (r : Int)) % (u.length : Int) = (((k + r) % u.length : Nat) : Int) := rfl
          have hnz : u.length ≠ 0 := by omega
          have hnz2 : ((u.length : Int) == 0) = false := by rw [beq_eq_false_iff_ne]; omega
          generalize (k + r) % u.length = j0 at hj HRS r0 r1
          have v0 : (0 : Int) ≤ (j0 : Int) := by omega
          have v1 : (j0 : Int) < (u.length : Int) := by omega
          have hk0 : (0 : Int) ≤ (k : Int) := by omega
          have hkl : (k : Int) < u.length := by omega
          have hbz := HW1.out
          clear hs
          go_wp2_with (first | (with_reducible refine wpList_load_mid (by with_unfolding_all rfl) 37 _ (by with_unfolding_all rfl) _ _ (by with_unfolding_all rfl) [.int .i64 s.thick.lo, .int .i64 s.thick.hi, .int .i64 s.depth.lo, .int .i64 s.depth.hi, .int .i64 s.shift.lo, .int .i64 s.shift.hi, .int .i64 s.pitch.lo, .int .i64 s.pitch.hi] _ HRS.out (by with_unfolding_all rfl) (by with_unfolding_all rfl) (by kernel_rfl) ?_) | (with_reducible refine wpList_bs (by with_unfolding_all rfl) 26 37 1 _ (by with_unfolding_all rfl) #[.int .i64 s.thick.lo, .int .i64 s.thick.hi, .int .i64 s.depth.lo, .int .i64 s.depth.hi, .int .i64 s.shift.lo, .int .i64 s.shift.hi, .int .i64 s.pitch.lo, .int .i64 s.pitch.hi] [.agg #[.int .i64 s.thick.lo, .int .i64 s.thick.hi, .int .i64 s.depth.lo, .int .i64 s.depth.hi, .int .i64 s.shift.lo, .int .i64 s.shift.hi, .int .i64 s.pitch.lo, .int .i64 s.pitch.hi]] (.agg #[.int .i64 0, .int .i64 0, .int .i64 0, .int .i64 0, .int .i64 0, .int .i64 0, .int .i64 0, .int .i64 0]) 8 (by kernel_rfl) (by kernel_rfl) (by decide) (by with_unfolding_all rfl) (by with_unfolding_all rfl) (by with_unfolding_all rfl) (by with_unfolding_all rfl) ?_) | (at_builtin; refine wpList_append_own _ rfl _ _ 26 rfl W1.heap.size 37 i0 _ 8 64 und_slatsR hi hz0 hz1 hz2 rfl (by decide) u41 k _ rfl (own5 HO.out ((Below.refl _ _).alloc (Nat.le_refl _) _)) ⟨wr.heap.size, 0, none⟩ 1 1 [.int .i64 s.thick.lo, .int .i64 s.thick.hi, .int .i64 s.depth.lo, .int .i64 s.depth.hi, .int .i64 s.shift.lo, .int .i64 s.shift.hi, .int .i64 s.pitch.lo, .int .i64 s.pitch.hi] rfl rfl (World.news_of_block (cs := #[.int .i64 s.thick.lo, .int .i64 s.thick.hi, .int .i64 s.depth.lo, .int .i64 s.depth.hi, .int .i64 s.shift.lo, .int .i64 s.shift.hi, .int .i64 s.pitch.lo, .int .i64 s.pitch.hi]) (t := 37) (fr := (0, 0)) (World.alloc_heap_new wr _)) (by simp [Value.oneCell']) (by unfold maxLen; omega) (by omega) (by simp; omega) ?_; intro v9 V1 hown1 hg1 hnn; clear hnn; have HO1 := Lib.hid hown1; have HG1 := Lib.hid hg1; clear hown1 hg1; go_upto_region 38 with fail; have hb9 := Below.grown (B := W1.heap.size) ((Below.refl W1.heap.size wr).alloc hbz (.cells #[.int .i64 s.thick.lo, .int .i64 s.thick.hi, .int .i64 s.depth.lo, .int .i64 s.depth.hi, .int .i64 s.shift.lo, .int .i64 s.shift.hi, .int .i64 s.pitch.lo, .int .i64 s.pitch.hi] 37)) HG1.out (by simp; omega) (own_geX HO.out); have HS2 := Lib.hid (HS.out.low hb9 HLT.out); have HW2 := Lib.hid (Nat.le_trans hbz hb9.size); have HN1 : Hid (V1.ownsRow W1.heap.size 37 8 v9 (k + 1) (slatsV ((rotL u r).take (k + 1)))) := Lib.hid (by rw [HNX.out]; exact HO1.out); clear r0 r1 hb9 HO1 HG1 HO HS HW1 hbz HRS HNX hnz hnz2 wlr v0 v1 hj HP2 HP4 HP1 HP3; go_wp2_with fail; go_roundw; (case rel => exact ⟨k + 1, by omega, by go_num, HN1, HS2, HW2⟩); (case measure => first | exact meas_lt hlt | (simp [intOf]; omega))))
      · obtain rfl : k = u.length := by omega
        have hlt' : ¬ (u.length : Int) < u.length := by omega
        have e5 : (rotL u r).take u.length = rotL u r := List.take_of_length_le (by rw [rotL_len]; exact Nat.le_refl _)
        obtain ⟨A4, c4, e4, hT⟩ := slats_form (l := rotL u r) (by have h9 := HO.out; rw [e5] at h9; exact h9) (rotL_len u r).symm
        rw [rotL_len] at e4
        subst e4
        have HT := Lib.hid hT
        have HLW := Lib.hid HS.out.k6.lt
        clear hT HO HW1 hk hlt HLT e5
        as_aux_lemma =>
          go_upto_region 39 with fail
          have HTU := Lib.hid fun W (hW : Below wr.heap.size wr W) => HT.out.on hW (Nat.le_refl _)
          go_cut [43, 44, 45] (fun _ s44 s45 wx => s44 = .int .i64 q1 ∧ s45 = .int .i64 0 ∧ Hid (MrB w j a b wx) ∧ Hid (Below wr.heap.size wr wx))
          case first => as_aux_lemma =>
            go_wp2_with fail
            replace HS := Lib.hid (HS.out.call (Below.refl _ _).drew)
            have HX : Hid (Below wr.heap.size wr wr.drew) := Lib.hid (Below.refl _ _).drew
            refine wp_region_held_drew (S := fun W9 => MrB w j a b W9) (by kernel_rfl) HS.out (fun hH0 => ?_)
            generalize World.drew _ = V0 at *
            simp only [List.size_toArray, List.length_cons, List.length_nil, Nat.reduceAdd, Array.replicate_succ, Array.replicate_zero, List.push_toArray, List.nil_append, List.cons_append]
            refine wpAnyH_take (i := 0) (v := _) rfl (by kernel_rfl) (by kernel_rfl) (by kernel_rfl) (fun _ _ _ h => h) (yieldsIf_load_mid (by rfl) _ _ rfl _ _ rfl [.int .i64 j.glue.lo, .int .i64 j.glue.hi, .int .i64 j.lead.lo, .int .i64 j.lead.hi, .int .i64 j.side.lo, .int .i64 j.side.hi, .int .i64 j.height.lo, .int .i64 j.height.hi, .int .i64 j.play, .int .i64 j.grooves] _ (fun w0 h0 => h0.k4.range) (by rfl) (by rfl) (by kernel_rfl)) (by assumption) ?_
            (try simp only [Act.put, List.getElem_toArray, List.getElem_cons_zero, List.setIfInBounds_toArray, List.set_cons_zero, List.set_cons_succ])
            refine wpAnyH_take (i := 2 ) (v := ?_) rfl (by kernel_rfl) (by kernel_rfl) (by kernel_rfl) (fun _ _ _ h => h) (Or.inl ⟨by rfl, ?_⟩) (by assumption) ?_; rotate_left; (· (intro w0 hSw; clear hSw; go_simp); first | done | with_reducible rfl); (try simp only [Act.put, List.getElem_toArray, List.getElem_cons_succ, List.getElem_cons_zero, List.setIfInBounds_toArray, List.set_cons_zero, List.set_cons_succ])
            refine wpAnyH_take (i := 4) (v := _) rfl (by kernel_rfl) (by kernel_rfl) (by kernel_rfl) (fun _ _ _ h => h) (yieldsIf_load_mid (by rfl) _ _ rfl _ _ rfl [.int .i64 a.thick.lo, .int .i64 a.thick.hi, .int .i64 a.depth.lo, .int .i64 a.depth.hi, .int .i64 a.shift.lo, .int .i64 a.shift.hi, .int .i64 a.pitch.lo, .int .i64 a.pitch.hi] _ (fun w0 h0 => h0.k5.range) (by rfl) (by rfl) (by kernel_rfl)) (by assumption) ?_
            (try simp only [Act.put, List.getElem_toArray, List.getElem_cons_succ, List.getElem_cons_zero, List.setIfInBounds_toArray, List.set_cons_zero, List.set_cons_succ])
            refine wpAnyH_take (i := 7 ) (v := ?_) rfl (by kernel_rfl) (by kernel_rfl) (by kernel_rfl) (fun _ _ _ h => h) (Or.inl ⟨by rfl, ?_⟩) (by assumption) ?_; rotate_left; (· (intro w0 hSw; clear hSw; go_simp); first | done | with_reducible rfl); (try simp only [Act.put, List.getElem_toArray, List.getElem_cons_succ, List.getElem_cons_zero, List.setIfInBounds_toArray, List.set_cons_zero, List.set_cons_succ])
            refine wpAnyH_take (i := 8 ) (v := ?_) rfl (by kernel_rfl) (by kernel_rfl) (by kernel_rfl) (fun _ _ _ h => h) (Or.inl ⟨by rfl, ?_⟩) (by assumption) ?_; rotate_left; (· (intro w0 hSw; clear hSw; go_simp); first | done | with_reducible rfl); (try simp only [Act.put, List.getElem_toArray, List.getElem_cons_succ, List.getElem_cons_zero, List.setIfInBounds_toArray, List.set_cons_zero, List.set_cons_succ])
            refine wpAnyH_ready (rs := [1, 5]) (by kernel_rfl) (by simp) ?_
            refine AllReadyH.cons (by simp only [List.getElem?_toArray, List.getElem?_cons_succ, List.getElem?_cons_zero]; rfl) (fun K hK => ?_) ?_
            · go_simp
              have hb : Below V0.heap.size V0 (V0.alloc (.cells #[] 37)) := (Below.refl _ _).alloc (Nat.le_refl _) _
              have HO := Lib.hid (slats_empty (B := wr.heap.size) HX.out.size (Blk.new V0 37 #[]))
              have hg2 := (Blk.new V0 37 #[]).lt
              replace HS := Lib.hid (HS.out.call hb)
              replace HX := Lib.hid (HX.out.trans (hb.mono HX.out.size))
              clear hb
              generalize V0.heap.size = g1 at *
              generalize World.alloc V0 _ = X at *
              refine hK.out _ _ HS.out (fun hH1 => ?_)
              clear hK K
              try simp only [List.setIfInBounds_toArray, List.set_cons_zero, List.set_cons_succ]
              refine wpAnyH_ready (rs := [3, 5]) (by kernel_rfl) (by simp) ?_
              refine AllReadyH.cons (by simp only [List.getElem?_toArray, List.getElem?_cons_succ, List.getElem?_cons_zero]; rfl) (fun K hK => ?_) ?_
              · refine step_append_sl (by rfl) _ _ 26 (by rfl) wr.heap.size 37 i0 _ 8 64 und_slatsR hi hz0 hz1 hz2 rfl (by decide) (.slice (some ⟨g1, 0, none⟩) 0 0) 0 (slatsV []) (by rfl) HO.out A l.length ca (slatsV l) (by rfl) HAN.out (slatsV_len _) (slats_newsA (HA.out.on HS.out.hb (Nat.le_refl _))) (slatsV_one _) (by unfold maxLen; omega) (by omega) HX.out.size ?_
                intro v8 X8 hown hgr
                rw [Nat.zero_add] at hown
                simp only [slatsV, List.nil_append] at hown
                have hb := below_app HX.out.size HO.out hgr
                replace HS := Lib.hid (HS.out.low hb HLW.out)
                replace HX := Lib.hid (HX.out.trans hb)
                replace HO := Lib.hid hown
                clear hb hown hgr
                generalize X8 = X at *
                refine hK.out _ _ HS.out (fun hH2 => ?_)
                clear hK K
                try simp only [List.setIfInBounds_toArray, List.set_cons_zero, List.set_cons_succ]
                refine wpAnyH_ready (rs := [5]) (by kernel_rfl) (by simp) ?_
                refine AllReadyH.cons (by simp only [List.getElem?_toArray, List.getElem?_cons_succ, List.getElem?_cons_zero]; rfl) (fun K hK => ?_) ?_
                · rw [if_pos (by rfl)]
                  refine wp_bs 26 37 1 _ (by rfl) #[.int .i64 a.thick.lo, .int .i64 a.thick.hi, .int .i64 a.depth.lo, .int .i64 a.depth.hi, .int .i64 a.shift.lo, .int .i64 a.shift.hi, .int .i64 a.pitch.lo, .int .i64 a.pitch.hi] [.agg #[.int .i64 a.thick.lo, .int .i64 a.thick.hi, .int .i64 a.depth.lo, .int .i64 a.depth.hi, .int .i64 a.shift.lo, .int .i64 a.shift.hi, .int .i64 a.pitch.lo, .int .i64 a.pitch.hi]] (.agg #[.int .i64 0, .int .i64 0, .int .i64 0, .int .i64 0, .int .i64 0, .int .i64 0, .int .i64 0, .int .i64 0]) 8 (by kernel_rfl) (by kernel_rfl) (by decide) (by rfl) (by rfl) (by rfl) (by rfl) ?_
                  simp only [Act.put, List.setIfInBounds_toArray, List.set_cons_zero, List.set_cons_succ]
                  have hb : Below X.heap.size X (X.alloc (.cells #[.int .i64 a.thick.lo, .int .i64 a.thick.hi, .int .i64 a.depth.lo, .int .i64 a.depth.hi, .int .i64 a.shift.lo, .int .i64 a.shift.hi, .int .i64 a.pitch.lo, .int .i64 a.pitch.hi] 37)) := (Below.refl _ _).alloc (Nat.le_refl _) _
                  have H5 := Lib.hid (Blk.new X 37 #[.int .i64 a.thick.lo, .int .i64 a.thick.hi, .int .i64 a.depth.lo, .int .i64 a.depth.hi, .int .i64 a.shift.lo, .int .i64 a.shift.hi, .int .i64 a.pitch.lo, .int .i64 a.pitch.hi])
                  replace HO := Lib.hid (own5 HO.out hb)
                  replace HS := Lib.hid (HS.out.call hb)
                  replace HX := Lib.hid (HX.out.trans (hb.mono HX.out.size))
                  clear hb
                  generalize X.heap.size = g5 at *
                  generalize World.alloc X _ = X at *
                  refine hK.out _ _ HS.out (fun hH3 => ?_)
                  clear hK K
                  try simp only [List.setIfInBounds_toArray, List.set_cons_zero, List.set_cons_succ]
                  refine wpAnyH_ready (rs := [6]) (by kernel_rfl) (by simp) ?_
                  refine AllReadyH.cons (by simp only [List.getElem?_toArray, List.getElem?_cons_succ, List.getElem?_cons_zero]; rfl) (fun K hK => ?_) ?_
                  · refine step_append_sl (by rfl) _ _ 26 (by rfl) wr.heap.size 37 i0 _ 8 64 und_slatsR hi hz0 hz1 hz2 rfl (by decide) v8 l.length (slatsV l) (by rfl) HO.out (some ⟨g5, 0, none⟩) 1 1 [.int .i64 a.thick.lo, .int .i64 a.thick.hi, .int .i64 a.depth.lo, .int .i64 a.depth.hi, .int .i64 a.shift.lo, .int .i64 a.shift.hi, .int .i64 a.pitch.lo, .int .i64 a.pitch.hi] (by rfl) (fun h => by cases h) (by rfl) (fun ad e => by cases e; exact World.news_of_block (cs := #[.int .i64 a.thick.lo, .int .i64 a.thick.hi, .int .i64 a.depth.lo, .int .i64 a.depth.hi, .int .i64 a.shift.lo, .int .i64 a.shift.hi, .int .i64 a.pitch.lo, .int .i64 a.pitch.hi]) (t := 37) (fr := (0, 0)) H5.out) (by simp [Value.oneCell']) (by unfold maxLen; omega) (by omega) HX.out.size ?_
                    intro v9 X9 hown hgr
                    have hb := below_app HX.out.size HO.out hgr
                    obtain ⟨A9, c9, rfl, hT9⟩ := slats_form (l := l ++ [a]) (by rw [slatsV_append]; exact hown) (by simp)
                    have HT9 := Lib.hid hT9
                    replace HS := Lib.hid (HS.out.low hb HLW.out)
                    replace HX := Lib.hid (HX.out.trans hb)
                    clear hb hown hgr H5 HO hT9
                    generalize X9 = X at *
                    rw [List.length_append, List.length_singleton] at *
                    refine hK.out _ _ HS.out (fun hH4 => ?_)
                    clear hK K
                    try simp only [List.setIfInBounds_toArray, List.set_cons_zero, List.set_cons_succ]
                    refine wpAnyH_ready (rs := [9]) (by kernel_rfl) (by simp) ?_
                    refine AllReadyH.cons (by simp only [List.getElem?_toArray, List.getElem?_cons_succ, List.getElem?_cons_zero]; rfl) (fun K hK => ?_) ?_
                    · go_simp
                      refine (HP1.out _ _ _ HS.out.hb HT9.out).mono ?_
                      rintro e X6 ⟨v43, rfl, hb⟩
                      replace HS := Lib.hid (HS.out.call hb)
                      replace HX := Lib.hid (HX.out.trans (hb.mono HX.out.size))
                      clear hb HT9
                      generalize X6 = X at *
                      refine hK.out _ _ HS.out (fun hH5 => ?_)
                      clear hK K
                      try simp only [List.setIfInBounds_toArray, List.set_cons_zero, List.set_cons_succ]
                      refine wpAnyH_take (i := 10 ) (v := ?_) rfl (by kernel_rfl) (by kernel_rfl) (by kernel_rfl) (fun _ _ _ h => h) (Or.inl ⟨by rfl, ?_⟩) (by assumption) ?_; rotate_left; (· (intro w0 hSw; clear hSw; go_simp); first | done | with_reducible rfl); (try simp only [Act.put, List.getElem_toArray, List.getElem_cons_succ, List.getElem_cons_zero, List.setIfInBounds_toArray, List.set_cons_zero, List.set_cons_succ])
                      refine wpAnyH_take (i := 11 ) (v := ?_) rfl (by kernel_rfl) (by kernel_rfl) (by kernel_rfl) (fun _ _ _ h => h) (Or.inl ⟨by rfl, ?_⟩) (by assumption) ?_; rotate_left; (· (intro w0 hSw; clear hSw; go_simp); first | done | with_reducible rfl); (try simp only [Act.put, List.getElem_toArray, List.getElem_cons_succ, List.getElem_cons_zero, List.setIfInBounds_toArray, List.set_cons_zero, List.set_cons_succ])
                      refine wpAnyH_take (i := 12 ) (v := ?_) rfl (by kernel_rfl) (by kernel_rfl) (by kernel_rfl) (fun _ _ _ h => h) (Or.inl ⟨by rfl, ?_⟩) (by assumption) ?_; rotate_left; (· (intro w0 hSw; clear hSw; go_simp); first | done | with_reducible rfl); (try simp only [Act.put, List.getElem_toArray, List.getElem_cons_succ, List.getElem_cons_zero, List.setIfInBounds_toArray, List.set_cons_zero, List.set_cons_succ])
                      refine wpAnyH_take (i := 13 ) (v := ?_) rfl (by kernel_rfl) (by kernel_rfl) (by kernel_rfl) (fun _ _ _ h => h) (Or.inl ⟨by rfl, ?_⟩) (by assumption) ?_; rotate_left; (· (intro w0 hSw; clear hSw; go_simp); first | done | with_reducible rfl); (try simp only [Act.put, List.getElem_toArray, List.getElem_cons_succ, List.getElem_cons_zero, List.setIfInBounds_toArray, List.set_cons_zero, List.set_cons_succ])
                      refine wpAnyH_take (i := 14 ) (v := ?_) rfl (by kernel_rfl) (by kernel_rfl) (by kernel_rfl) (fun _ _ _ h => h) (Or.inl ⟨by rfl, ?_⟩) (by assumption) ?_; rotate_left; (· (intro w0 hSw; clear hSw; go_simp); first | done | with_reducible rfl); (try simp only [Act.put, List.getElem_toArray, List.getElem_cons_succ, List.getElem_cons_zero, List.setIfInBounds_toArray, List.set_cons_zero, List.set_cons_succ])
                      refine wpAnyH_take (i := 15 ) (v := ?_) rfl (by kernel_rfl) (by kernel_rfl) (by kernel_rfl) (fun _ _ _ h => h) (Or.inl ⟨by rfl, ?_⟩) (by assumption) ?_; rotate_left; (· (intro w0 hSw; clear hSw; go_simp); first | done | with_reducible rfl); (try simp only [Act.put, List.getElem_toArray, List.getElem_cons_succ, List.getElem_cons_zero, List.setIfInBounds_toArray, List.set_cons_zero, List.set_cons_succ])
                      refine wpAnyH_take (i := 16 ) (v := ?_) rfl (by kernel_rfl) (by kernel_rfl) (by kernel_rfl) (fun _ _ _ h => h) (Or.inl ⟨by rfl, ?_⟩) (by assumption) ?_; rotate_left; (· (intro w0 hSw; clear hSw; go_simp); first | done | with_reducible rfl); (try simp only [Act.put, List.getElem_toArray, List.getElem_cons_succ, List.getElem_cons_zero, List.setIfInBounds_toArray, List.set_cons_zero, List.set_cons_succ])
                      refine wpAnyH_done (by kernel_rfl) ?_ _
                      go_wp2_with fail
                      go_meet
                      exact ⟨rfl, rfl, HS, HX⟩
                    exact AllReadyH.nil
                  exact AllReadyH.nil
                exact AllReadyH.nil
              refine AllReadyH.cons (by simp only [List.getElem?_toArray, List.getElem?_cons_succ, List.getElem?_cons_zero]; rfl) (fun K hK => ?_) ?_
              · rw [if_pos (by rfl)]
                refine wp_bs 26 37 1 _ (by rfl) #[.int .i64 a.thick.lo, .int .i64 a.thick.hi, .int .i64 a.depth.lo, .int .i64 a.depth.hi, .int .i64 a.shift.lo, .int .i64 a.shift.hi, .int .i64 a.pitch.lo, .int .i64 a.pitch.hi] [.agg #[.int .i64 a.thick.lo, .int .i64 a.thick.hi, .int .i64 a.depth.lo, .int .i64 a.depth.hi, .int .i64 a.shift.lo, .int .i64 a.shift.hi, .int .i64 a.pitch.lo, .int .i64 a.pitch.hi]] (.agg #[.int .i64 0, .int .i64 0, .int .i64 0, .int .i64 0, .int .i64 0, .int .i64 0, .int .i64 0, .int .i64 0]) 8 (by kernel_rfl) (by kernel_rfl) (by decide) (by rfl) (by rfl) (by rfl) (by rfl) ?_
                simp only [Act.put, List.setIfInBounds_toArray, List.set_cons_zero, List.set_cons_succ]
                have hb : Below X.heap.size X (X.alloc (.cells #[.int .i64 a.thick.lo, .int .i64 a.thick.hi, .int .i64 a.depth.lo, .int .i64 a.depth.hi, .int .i64 a.shift.lo, .int .i64 a.shift.hi, .int .i64 a.pitch.lo, .int .i64 a.pitch.hi] 37)) := (Below.refl _ _).alloc (Nat.le_refl _) _
                have H5 := Lib.hid (Blk.new X 37 #[.int .i64 a.thick.lo, .int .i64 a.thick.hi, .int .i64 a.depth.lo, .int .i64 a.depth.hi, .int .i64 a.shift.lo, .int .i64 a.shift.hi, .int .i64 a.pitch.lo, .int .i64 a.pitch.hi])
                replace HO := Lib.hid (own5 HO.out hb)
                have hne : X.heap.size ≠ g1 := Nat.ne_of_gt hg2
                replace HS := Lib.hid (HS.out.call hb)
                replace HX := Lib.hid (HX.out.trans (hb.mono HX.out.size))
                clear hb
                generalize X.heap.size = g5 at *
                generalize World.alloc X _ = X at *
                refine hK.out _ _ HS.out (fun hH6 => ?_)
                clear hK K
                try simp only [List.setIfInBounds_toArray, List.set_cons_zero, List.set_cons_succ]
                refine wpAnyH_ready (rs := [3]) (by kernel_rfl) (by simp) ?_
                refine AllReadyH.cons (by simp only [List.getElem?_toArray, List.getElem?_cons_succ, List.getElem?_cons_zero]; rfl) (fun K hK => ?_) ?_
                · refine step_append_sl (by rfl) _ _ 26 (by rfl) wr.heap.size 37 i0 _ 8 64 und_slatsR hi hz0 hz1 hz2 rfl (by decide) (.slice (some ⟨g1, 0, none⟩) 0 0) 0 (slatsV []) (by rfl) HO.out A l.length ca (slatsV l) (by rfl) HAN.out (slatsV_len _) (slats_newsA (HA.out.on HS.out.hb (Nat.le_refl _))) (slatsV_one _) (by unfold maxLen; omega) (by omega) HX.out.size ?_
                  intro v8 X8 hown hgr
                  rw [Nat.zero_add] at hown
                  simp only [slatsV, List.nil_append] at hown
                  have hb := below_app HX.out.size HO.out hgr
                  replace H5 := Lib.hid (H5.out.kept hgr (by simpa [Value.ownBlock] using hne))
                  replace HS := Lib.hid (HS.out.low hb HLW.out)
                  replace HX := Lib.hid (HX.out.trans hb)
                  replace HO := Lib.hid hown
                  clear hb hown hgr
                  generalize X8 = X at *
                  refine hK.out _ _ HS.out (fun hH7 => ?_)
                  clear hK K
                  try simp only [List.setIfInBounds_toArray, List.set_cons_zero, List.set_cons_succ]
                  refine wpAnyH_ready (rs := [6]) (by kernel_rfl) (by simp) ?_
                  refine AllReadyH.cons (by simp only [List.getElem?_toArray, List.getElem?_cons_succ, List.getElem?_cons_zero]; rfl) (fun K hK => ?_) ?_
                  · refine step_append_sl (by rfl) _ _ 26 (by rfl) wr.heap.size 37 i0 _ 8 64 und_slatsR hi hz0 hz1 hz2 rfl (by decide) v8 l.length (slatsV l) (by rfl) HO.out (some ⟨g5, 0, none⟩) 1 1 [.int .i64 a.thick.lo, .int .i64 a.thick.hi, .int .i64 a.depth.lo, .int .i64 a.depth.hi, .int .i64 a.shift.lo, .int .i64 a.shift.hi, .int .i64 a.pitch.lo, .int .i64 a.pitch.hi] (by rfl) (fun h => by cases h) (by rfl) (fun ad e => by cases e; exact World.news_of_block (cs := #[.int .i64 a.thick.lo, .int .i64 a.thick.hi, .int .i64 a.depth.lo, .int .i64 a.depth.hi, .int .i64 a.shift.lo, .int .i64 a.shift.hi, .int .i64 a.pitch.lo, .int .i64 a.pitch.hi]) (t := 37) (fr := (0, 0)) H5.out) (by simp [Value.oneCell']) (by unfold maxLen; omega) (by omega) HX.out.size ?_
                    intro v9 X9 hown hgr
                    have hb := below_app HX.out.size HO.out hgr
                    obtain ⟨A9, c9, rfl, hT9⟩ := slats_form (l := l ++ [a]) (by rw [slatsV_append]; exact hown) (by simp)
                    have HT9 := Lib.hid hT9
                    replace HS := Lib.hid (HS.out.low hb HLW.out)
                    replace HX := Lib.hid (HX.out.trans hb)
                    clear hb hown hgr H5 HO hT9
                    generalize X9 = X at *
                    rw [List.length_append, List.length_singleton] at *
                    refine hK.out _ _ HS.out (fun hH8 => ?_)
                    clear hK K
                    try simp only [List.setIfInBounds_toArray, List.set_cons_zero, List.set_cons_succ]
                    refine wpAnyH_ready (rs := [9]) (by kernel_rfl) (by simp) ?_
                    refine AllReadyH.cons (by simp only [List.getElem?_toArray, List.getElem?_cons_succ, List.getElem?_cons_zero]; rfl) (fun K hK => ?_) ?_
                    · go_simp
                      refine (HP1.out _ _ _ HS.out.hb HT9.out).mono ?_
                      rintro e X6 ⟨v43, rfl, hb⟩
                      replace HS := Lib.hid (HS.out.call hb)
                      replace HX := Lib.hid (HX.out.trans (hb.mono HX.out.size))
                      clear hb HT9
                      generalize X6 = X at *
                      refine hK.out _ _ HS.out (fun hH9 => ?_)
                      clear hK K
                      try simp only [List.setIfInBounds_toArray, List.set_cons_zero, List.set_cons_succ]
                      refine wpAnyH_take (i := 10 ) (v := ?_) rfl (by kernel_rfl) (by kernel_rfl) (by kernel_rfl) (fun _ _ _ h => h) (Or.inl ⟨by rfl, ?_⟩) (by assumption) ?_; rotate_left; (· (intro w0 hSw; clear hSw; go_simp); first | done | with_reducible rfl); (try simp only [Act.put, List.getElem_toArray, List.getElem_cons_succ, List.getElem_cons_zero, List.setIfInBounds_toArray, List.set_cons_zero, List.set_cons_succ])
                      refine wpAnyH_take (i := 11 ) (v := ?_) rfl (by kernel_rfl) (by kernel_rfl) (by kernel_rfl) (fun _ _ _ h => h) (Or.inl ⟨by rfl, ?_⟩) (by assumption) ?_; rotate_left; (· (intro w0 hSw; clear hSw; go_simp); first | done | with_reducible rfl); (try simp only [Act.put, List.getElem_toArray, List.getElem_cons_succ, List.getElem_cons_zero, List.setIfInBounds_toArray, List.set_cons_zero, List.set_cons_succ])
                      refine wpAnyH_take (i := 12 ) (v := ?_) rfl (by kernel_rfl) (by kernel_rfl) (by kernel_rfl) (fun _ _ _ h => h) (Or.inl ⟨by rfl, ?_⟩) (by assumption) ?_; rotate_left; (· (intro w0 hSw; clear hSw; go_simp); first | done | with_reducible rfl); (try simp only [Act.put, List.getElem_toArray, List.getElem_cons_succ, List.getElem_cons_zero, List.setIfInBounds_toArray, List.set_cons_zero, List.set_cons_succ])
                      refine wpAnyH_take (i := 13 ) (v := ?_) rfl (by kernel_rfl) (by kernel_rfl) (by kernel_rfl) (fun _ _ _ h => h) (Or.inl ⟨by rfl, ?_⟩) (by assumption) ?_; rotate_left; (· (intro w0 hSw; clear hSw; go_simp); first | done | with_reducible rfl); (try simp only [Act.put, List.getElem_toArray, List.getElem_cons_succ, List.getElem_cons_zero, List.setIfInBounds_toArray, List.set_cons_zero, List.set_cons_succ])
                      refine wpAnyH_take (i := 14 ) (v := ?_) rfl (by kernel_rfl) (by kernel_rfl) (by kernel_rfl) (fun _ _ _ h => h) (Or.inl ⟨by rfl, ?_⟩) (by assumption) ?_; rotate_left; (· (intro w0 hSw; clear hSw; go_simp); first | done | with_reducible rfl); (try simp only [Act.put, List.getElem_toArray, List.getElem_cons_succ, List.getElem_cons_zero, List.setIfInBounds_toArray, List.set_cons_zero, List.set_cons_succ])
                      refine wpAnyH_take (i := 15 ) (v := ?_) rfl (by kernel_rfl) (by kernel_rfl) (by kernel_rfl) (fun _ _ _ h => h) (Or.inl ⟨by rfl, ?_⟩) (by assumption) ?_; rotate_left; (· (intro w0 hSw; clear hSw; go_simp); first | done | with_reducible rfl); (try simp only [Act.put, List.getElem_toArray, List.getElem_cons_succ, List.getElem_cons_zero, List.setIfInBounds_toArray, List.set_cons_zero, List.set_cons_succ])
                      refine wpAnyH_take (i := 16 ) (v := ?_) rfl (by kernel_rfl) (by kernel_rfl) (by kernel_rfl) (fun _ _ _ h => h) (Or.inl ⟨by rfl, ?_⟩) (by assumption) ?_; rotate_left; (· (intro w0 hSw; clear hSw; go_simp); first | done | with_reducible rfl); (try simp only [Act.put, List.getElem_toArray, List.getElem_cons_succ, List.getElem_cons_zero, List.setIfInBounds_toArray, List.set_cons_zero, List.set_cons_succ])
                      refine wpAnyH_done (by kernel_rfl) ?_ _
                      go_wp2_with fail
                      go_meet
                      exact ⟨rfl, rfl, HS, HX⟩
                    exact AllReadyH.nil
                  exact AllReadyH.nil
                exact AllReadyH.nil
              exact AllReadyH.nil
            refine AllReadyH.cons (by simp only [List.getElem?_toArray, List.getElem?_cons_succ, List.getElem?_cons_zero]; rfl) (fun K hK => ?_) ?_
            · rw [if_pos (by rfl)]
              refine wp_bs 26 37 1 _ (by rfl) #[.int .i64 a.thick.lo, .int .i64 a.thick.hi, .int .i64 a.depth.lo, .int .i64 a.depth.hi, .int .i64 a.shift.lo, .int .i64 a.shift.hi, .int .i64 a.pitch.lo, .int .i64 a.pitch.hi] [.agg #[.int .i64 a.thick.lo, .int .i64 a.thick.hi, .int .i64 a.depth.lo, .int .i64 a.depth.hi, .int .i64 a.shift.lo, .int .i64 a.shift.hi, .int .i64 a.pitch.lo, .int .i64 a.pitch.hi]] (.agg #[.int .i64 0, .int .i64 0, .int .i64 0, .int .i64 0, .int .i64 0, .int .i64 0, .int .i64 0, .int .i64 0]) 8 (by kernel_rfl) (by kernel_rfl) (by decide) (by rfl) (by rfl) (by rfl) (by rfl) ?_
              simp only [Act.put, List.setIfInBounds_toArray, List.set_cons_zero, List.set_cons_succ]
              have hb : Below V0.heap.size V0 (V0.alloc (.cells #[.int .i64 a.thick.lo, .int .i64 a.thick.hi, .int .i64 a.depth.lo, .int .i64 a.depth.hi, .int .i64 a.shift.lo, .int .i64 a.shift.hi, .int .i64 a.pitch.lo, .int .i64 a.pitch.hi] 37)) := (Below.refl _ _).alloc (Nat.le_refl _) _
              have H5 := Lib.hid (Blk.new V0 37 #[.int .i64 a.thick.lo, .int .i64 a.thick.hi, .int .i64 a.depth.lo, .int .i64 a.depth.hi, .int .i64 a.shift.lo, .int .i64 a.shift.hi, .int .i64 a.pitch.lo, .int .i64 a.pitch.hi])
              replace HS := Lib.hid (HS.out.call hb)
              replace HX := Lib.hid (HX.out.trans (hb.mono HX.out.size))
              clear hb
              generalize V0.heap.size = g5 at *
              generalize World.alloc V0 _ = X at *
              refine hK.out _ _ HS.out (fun hH10 => ?_)
              clear hK K
              try simp only [List.setIfInBounds_toArray, List.set_cons_zero, List.set_cons_succ]
              refine wpAnyH_ready (rs := [1]) (by kernel_rfl) (by simp) ?_
              refine AllReadyH.cons (by simp only [List.getElem?_toArray, List.getElem?_cons_succ, List.getElem?_cons_zero]; rfl) (fun K hK => ?_) ?_
              · go_simp
                have hb : Below X.heap.size X (X.alloc (.cells #[] 37)) := (Below.refl _ _).alloc (Nat.le_refl _) _
                have HO := Lib.hid (slats_empty (B := wr.heap.size) HX.out.size (Blk.new X 37 #[]))
                have hg2 := (Blk.new X 37 #[]).lt
                have hne : g5 ≠ X.heap.size := Nat.ne_of_lt H5.out.lt
                replace H5 := Lib.hid (H5.out.below hb H5.out.lt)
                replace HS := Lib.hid (HS.out.call hb)
                replace HX := Lib.hid (HX.out.trans (hb.mono HX.out.size))
                clear hb
                generalize X.heap.size = g1 at *
                generalize World.alloc X _ = X at *
                refine hK.out _ _ HS.out (fun hH11 => ?_)
                clear hK K
                try simp only [List.setIfInBounds_toArray, List.set_cons_zero, List.set_cons_succ]
                refine wpAnyH_ready (rs := [3]) (by kernel_rfl) (by simp) ?_
                refine AllReadyH.cons (by simp only [List.getElem?_toArray, List.getElem?_cons_succ, List.getElem?_cons_zero]; rfl) (fun K hK => ?_) ?_
                · refine step_append_sl (by rfl) _ _ 26 (by rfl) wr.heap.size 37 i0 _ 8 64 und_slatsR hi hz0 hz1 hz2 rfl (by decide) (.slice (some ⟨g1, 0, none⟩) 0 0) 0 (slatsV []) (by rfl) HO.out A l.length ca (slatsV l) (by rfl) HAN.out (slatsV_len _) (slats_newsA (HA.out.on HS.out.hb (Nat.le_refl _))) (slatsV_one _) (by unfold maxLen; omega) (by omega) HX.out.size ?_
                  intro v8 X8 hown hgr
                  rw [Nat.zero_add] at hown
                  simp only [slatsV, List.nil_append] at hown
                  have hb := below_app HX.out.size HO.out hgr
                  replace H5 := Lib.hid (H5.out.kept hgr (by simpa [Value.ownBlock] using hne))
                  replace HS := Lib.hid (HS.out.low hb HLW.out)
                  replace HX := Lib.hid (HX.out.trans hb)
                  replace HO := Lib.hid hown
                  clear hb hown hgr
                  generalize X8 = X at *
                  refine hK.out _ _ HS.out (fun hH12 => ?_)
                  clear hK K
                  try simp only [List.setIfInBounds_toArray, List.set_cons_zero, List.set_cons_succ]
                  refine wpAnyH_ready (rs := [6]) (by kernel_rfl) (by simp) ?_
                  refine AllReadyH.cons (by simp only [List.getElem?_toArray, List.getElem?_cons_succ, List.getElem?_cons_zero]; rfl) (fun K hK => ?_) ?_
                  · refine step_append_sl (by rfl) _ _ 26 (by rfl) wr.heap.size 37 i0 _ 8 64 und_slatsR hi hz0 hz1 hz2 rfl (by decide) v8 l.length (slatsV l) (by rfl) HO.out (some ⟨g5, 0, none⟩) 1 1 [.int .i64 a.thick.lo, .int .i64 a.thick.hi, .int .i64 a.depth.lo, .int .i64 a.depth.hi, .int .i64 a.shift.lo, .int .i64 a.shift.hi, .int .i64 a.pitch.lo, .int .i64 a.pitch.hi] (by rfl) (fun h => by cases h) (by rfl) (fun ad e => by cases e; exact World.news_of_block (cs := #[.int .i64 a.thick.lo, .int .i64 a.thick.hi, .int .i64 a.depth.lo, .int .i64 a.depth.hi, .int .i64 a.shift.lo, .int .i64 a.shift.hi, .int .i64 a.pitch.lo, .int .i64 a.pitch.hi]) (t := 37) (fr := (0, 0)) H5.out) (by simp [Value.oneCell']) (by unfold maxLen; omega) (by omega) HX.out.size ?_
                    intro v9 X9 hown hgr
                    have hb := below_app HX.out.size HO.out hgr
                    obtain ⟨A9, c9, rfl, hT9⟩ := slats_form (l := l ++ [a]) (by rw [slatsV_append]; exact hown) (by simp)
                    have HT9 := Lib.hid hT9
                    replace HS := Lib.hid (HS.out.low hb HLW.out)
                    replace HX := Lib.hid (HX.out.trans hb)
                    clear hb hown hgr H5 HO hT9
                    generalize X9 = X at *
                    rw [List.length_append, List.length_singleton] at *
                    refine hK.out _ _ HS.out (fun hH13 => ?_)
                    clear hK K
                    try simp only [List.setIfInBounds_toArray, List.set_cons_zero, List.set_cons_succ]
                    refine wpAnyH_ready (rs := [9]) (by kernel_rfl) (by simp) ?_
                    refine AllReadyH.cons (by simp only [List.getElem?_toArray, List.getElem?_cons_succ, List.getElem?_cons_zero]; rfl) (fun K hK => ?_) ?_
                    · go_simp
                      refine (HP1.out _ _ _ HS.out.hb HT9.out).mono ?_
                      rintro e X6 ⟨v43, rfl, hb⟩
                      replace HS := Lib.hid (HS.out.call hb)
                      replace HX := Lib.hid (HX.out.trans (hb.mono HX.out.size))
                      clear hb HT9
                      generalize X6 = X at *
                      refine hK.out _ _ HS.out (fun hH14 => ?_)
                      clear hK K
                      try simp only [List.setIfInBounds_toArray, List.set_cons_zero, List.set_cons_succ]
                      refine wpAnyH_take (i := 10 ) (v := ?_) rfl (by kernel_rfl) (by kernel_rfl) (by kernel_rfl) (fun _ _ _ h => h) (Or.inl ⟨by rfl, ?_⟩) (by assumption) ?_; rotate_left; (· (intro w0 hSw; clear hSw; go_simp); first | done | with_reducible rfl); (try simp only [Act.put, List.getElem_toArray, List.getElem_cons_succ, List.getElem_cons_zero, List.setIfInBounds_toArray, List.set_cons_zero, List.set_cons_succ])
                      refine wpAnyH_take (i := 11 ) (v := ?_) rfl (by kernel_rfl) (by kernel_rfl) (by kernel_rfl) (fun _ _ _ h => h) (Or.inl ⟨by rfl, ?_⟩) (by assumption) ?_; rotate_left; (· (intro w0 hSw; clear hSw; go_simp); first | done | with_reducible rfl); (try simp only [Act.put, List.getElem_toArray, List.getElem_cons_succ, List.getElem_cons_zero, List.setIfInBounds_toArray, List.set_cons_zero, List.set_cons_succ])
                      refine wpAnyH_take (i := 12 ) (v := ?_) rfl (by kernel_rfl) (by kernel_rfl) (by kernel_rfl) (fun _ _ _ h => h) (Or.inl ⟨by rfl, ?_⟩) (by assumption) ?_; rotate_left; (· (intro w0 hSw; clear hSw; go_simp); first | done | with_reducible rfl); (try simp only [Act.put, List.getElem_toArray, List.getElem_cons_succ, List.getElem_cons_zero, List.setIfInBounds_toArray, List.set_cons_zero, List.set_cons_succ])
                      refine wpAnyH_take (i := 13 ) (v := ?_) rfl (by kernel_rfl) (by kernel_rfl) (by kernel_rfl) (fun _ _ _ h => h) (Or.inl ⟨by rfl, ?_⟩) (by assumption) ?_; rotate_left; (· (intro w0 hSw; clear hSw; go_simp); first | done | with_reducible rfl); (try simp only [Act.put, List.getElem_toArray, List.getElem_cons_succ, List.getElem_cons_zero, List.setIfInBounds_toArray, List.set_cons_zero, List.set_cons_succ])
                      refine wpAnyH_take (i := 14 ) (v := ?_) rfl (by kernel_rfl) (by kernel_rfl) (by kernel_rfl) (fun _ _ _ h => h) (Or.inl ⟨by rfl, ?_⟩) (by assumption) ?_; rotate_left; (· (intro w0 hSw; clear hSw; go_simp); first | done | with_reducible rfl); (try simp only [Act.put, List.getElem_toArray, List.getElem_cons_succ, List.getElem_cons_zero, List.setIfInBounds_toArray, List.set_cons_zero, List.set_cons_succ])
                      refine wpAnyH_take (i := 15 ) (v := ?_) rfl (by kernel_rfl) (by kernel_rfl) (by kernel_rfl) (fun _ _ _ h => h) (Or.inl ⟨by rfl, ?_⟩) (by assumption) ?_; rotate_left; (· (intro w0 hSw; clear hSw; go_simp); first | done | with_reducible rfl); (try simp only [Act.put, List.getElem_toArray, List.getElem_cons_succ, List.getElem_cons_zero, List.setIfInBounds_toArray, List.set_cons_zero, List.set_cons_succ])
                      refine wpAnyH_take (i := 16 ) (v := ?_) rfl (by kernel_rfl) (by kernel_rfl) (by kernel_rfl) (fun _ _ _ h => h) (Or.inl ⟨by rfl, ?_⟩) (by assumption) ?_; rotate_left; (· (intro w0 hSw; clear hSw; go_simp); first | done | with_reducible rfl); (try simp only [Act.put, List.getElem_toArray, List.getElem_cons_succ, List.getElem_cons_zero, List.setIfInBounds_toArray, List.set_cons_zero, List.set_cons_succ])
                      refine wpAnyH_done (by kernel_rfl) ?_ _
                      go_wp2_with fail
                      go_meet
                      exact ⟨rfl, rfl, HS, HX⟩
                    exact AllReadyH.nil
                  exact AllReadyH.nil
                exact AllReadyH.nil
              exact AllReadyH.nil
            exact AllReadyH.nil
          case rest => as_aux_lemma =>
            clear HS
            obtain ⟨rfl, rfl, HS, HX⟩ := hcut
            go_upto_region 40 with fail
            go_cut [46, 47, 48] (fun _ s44 s45 wx => s44 = .int .i64 q2 ∧ s45 = .int .i64 0 ∧ Hid (MrB w j a b wx) ∧ Hid (Below wr.heap.size wr wx))
            case first => as_aux_lemma =>
              go_wp2_with fail
              replace HS := Lib.hid (HS.out.call (Below.refl _ _).drew)
              replace HX := Lib.hid (HX.out.trans ((Below.refl _ _).drew.mono HX.out.size))
              refine wp_region_held_drew (S := fun W9 => MrB w j a b W9) (by kernel_rfl) HS.out (fun hH0 => ?_)
              generalize World.drew _ = V0 at *
              simp only [List.size_toArray, List.length_cons, List.length_nil, Nat.reduceAdd, Array.replicate_succ, Array.replicate_zero, List.push_toArray, List.nil_append, List.cons_append]
              refine wpAnyH_take (i := 0) (v := _) rfl (by kernel_rfl) (by kernel_rfl) (by kernel_rfl) (fun _ _ _ h => h) (yieldsIf_load_mid (by rfl) _ _ rfl _ _ rfl [.int .i64 j.glue.lo, .int .i64 j.glue.hi, .int .i64 j.lead.lo, .int .i64 j.lead.hi, .int .i64 j.side.lo, .int .i64 j.side.hi, .int .i64 j.height.lo, .int .i64 j.height.hi, .int .i64 j.play, .int .i64 j.grooves] _ (fun w0 h0 => h0.k4.range) (by rfl) (by rfl) (by kernel_rfl)) (by assumption) ?_
              (try simp only [Act.put, List.getElem_toArray, List.getElem_cons_zero, List.setIfInBounds_toArray, List.set_cons_zero, List.set_cons_succ])
              refine wpAnyH_take (i := 1 ) (v := ?_) rfl (by kernel_rfl) (by kernel_rfl) (by kernel_rfl) (fun _ _ _ h => h) (Or.inl ⟨by rfl, ?_⟩) (by assumption) ?_; rotate_left; (· (intro w0 hSw; clear hSw; go_simp); first | done | with_reducible rfl); (try simp only [Act.put, List.getElem_toArray, List.getElem_cons_succ, List.getElem_cons_zero, List.setIfInBounds_toArray, List.set_cons_zero, List.set_cons_succ])
              refine wpAnyH_take (i := 3 ) (v := ?_) rfl (by kernel_rfl) (by kernel_rfl) (by kernel_rfl) (fun _ _ _ h => h) (Or.inl ⟨by rfl, ?_⟩) (by assumption) ?_; rotate_left; (· (intro w0 hSw; clear hSw; go_simp); first | done | with_reducible rfl); (try simp only [Act.put, List.getElem_toArray, List.getElem_cons_succ, List.getElem_cons_zero, List.setIfInBounds_toArray, List.set_cons_zero, List.set_cons_succ])
              refine wpAnyH_take (i := 5) (v := _) rfl (by kernel_rfl) (by kernel_rfl) (by kernel_rfl) (fun _ _ _ h => h) (yieldsIf_load_mid (by rfl) _ _ rfl _ _ rfl [.int .i64 b.thick.lo, .int .i64 b.thick.hi, .int .i64 b.depth.lo, .int .i64 b.depth.hi, .int .i64 b.shift.lo, .int .i64 b.shift.hi, .int .i64 b.pitch.lo, .int .i64 b.pitch.hi] _ (fun w0 h0 => h0.k6.range) (by rfl) (by rfl) (by kernel_rfl)) (by assumption) ?_
              (try simp only [Act.put, List.getElem_toArray, List.getElem_cons_succ, List.getElem_cons_zero, List.setIfInBounds_toArray, List.set_cons_zero, List.set_cons_succ])
              refine wpAnyH_take (i := 8 ) (v := ?_) rfl (by kernel_rfl) (by kernel_rfl) (by kernel_rfl) (fun _ _ _ h => h) (Or.inl ⟨by rfl, ?_⟩) (by assumption) ?_; rotate_left; (· (intro w0 hSw; clear hSw; go_simp); first | done | with_reducible rfl); (try simp only [Act.put, List.getElem_toArray, List.getElem_cons_succ, List.getElem_cons_zero, List.setIfInBounds_toArray, List.set_cons_zero, List.set_cons_succ])
              refine wpAnyH_ready (rs := [2, 6]) (by kernel_rfl) (by simp) ?_
              refine AllReadyH.cons (by simp only [List.getElem?_toArray, List.getElem?_cons_succ, List.getElem?_cons_zero]; rfl) (fun K hK => ?_) ?_
              · go_simp
                have hb : Below V0.heap.size V0 (V0.alloc (.cells #[] 37)) := (Below.refl _ _).alloc (Nat.le_refl _) _
                have HO := Lib.hid (slats_empty (B := wr.heap.size) HX.out.size (Blk.new V0 37 #[]))
                have hg2 := (Blk.new V0 37 #[]).lt
                replace HS := Lib.hid (HS.out.call hb)
                replace HX := Lib.hid (HX.out.trans (hb.mono HX.out.size))
                clear hb
                generalize V0.heap.size = g1 at *
                generalize World.alloc V0 _ = X at *
                refine hK.out _ _ HS.out (fun hH1 => ?_)
                clear hK K
                try simp only [List.setIfInBounds_toArray, List.set_cons_zero, List.set_cons_succ]
                refine wpAnyH_ready (rs := [4, 6]) (by kernel_rfl) (by simp) ?_
                refine AllReadyH.cons (by simp only [List.getElem?_toArray, List.getElem?_cons_succ, List.getElem?_cons_zero]; rfl) (fun K hK => ?_) ?_
                · refine step_append_sl (by rfl) _ _ 26 (by rfl) wr.heap.size 37 i0 _ 8 64 und_slatsR hi hz0 hz1 hz2 rfl (by decide) (.slice (some ⟨g1, 0, none⟩) 0 0) 0 (slatsV []) (by rfl) HO.out B u.length cb (slatsV u) (by rfl) HBN.out (slatsV_len _) (slats_newsA (HBB.out.on HS.out.hb (Nat.le_refl _))) (slatsV_one _) (by unfold maxLen; omega) (by omega) HX.out.size ?_
                  intro v8 X8 hown hgr
                  rw [Nat.zero_add] at hown
                  simp only [slatsV, List.nil_append] at hown
                  have hb := below_app HX.out.size HO.out hgr
                  replace HS := Lib.hid (HS.out.low hb HLW.out)
                  replace HX := Lib.hid (HX.out.trans hb)
                  replace HO := Lib.hid hown
                  clear hb hown hgr
                  generalize X8 = X at *
                  refine hK.out _ _ HS.out (fun hH2 => ?_)
                  clear hK K
                  try simp only [List.setIfInBounds_toArray, List.set_cons_zero, List.set_cons_succ]
                  refine wpAnyH_ready (rs := [6]) (by kernel_rfl) (by simp) ?_
                  refine AllReadyH.cons (by simp only [List.getElem?_toArray, List.getElem?_cons_succ, List.getElem?_cons_zero]; rfl) (fun K hK => ?_) ?_
                  · rw [if_pos (by rfl)]
                    refine wp_bs 26 37 1 _ (by rfl) #[.int .i64 b.thick.lo, .int .i64 b.thick.hi, .int .i64 b.depth.lo, .int .i64 b.depth.hi, .int .i64 b.shift.lo, .int .i64 b.shift.hi, .int .i64 b.pitch.lo, .int .i64 b.pitch.hi] [.agg #[.int .i64 b.thick.lo, .int .i64 b.thick.hi, .int .i64 b.depth.lo, .int .i64 b.depth.hi, .int .i64 b.shift.lo, .int .i64 b.shift.hi, .int .i64 b.pitch.lo, .int .i64 b.pitch.hi]] (.agg #[.int .i64 0, .int .i64 0, .int .i64 0, .int .i64 0, .int .i64 0, .int .i64 0, .int .i64 0, .int .i64 0]) 8 (by kernel_rfl) (by kernel_rfl) (by decide) (by rfl) (by rfl) (by rfl) (by rfl) ?_
                    simp only [Act.put, List.setIfInBounds_toArray, List.set_cons_zero, List.set_cons_succ]
                    have hb : Below X.heap.size X (X.alloc (.cells #[.int .i64 b.thick.lo, .int .i64 b.thick.hi, .int .i64 b.depth.lo, .int .i64 b.depth.hi, .int .i64 b.shift.lo, .int .i64 b.shift.hi, .int .i64 b.pitch.lo, .int .i64 b.pitch.hi] 37)) := (Below.refl _ _).alloc (Nat.le_refl _) _
                    have H5 := Lib.hid (Blk.new X 37 #[.int .i64 b.thick.lo, .int .i64 b.thick.hi, .int .i64 b.depth.lo, .int .i64 b.depth.hi, .int .i64 b.shift.lo, .int .i64 b.shift.hi, .int .i64 b.pitch.lo, .int .i64 b.pitch.hi])
                    replace HO := Lib.hid (own5 HO.out hb)
                    replace HS := Lib.hid (HS.out.call hb)
                    replace HX := Lib.hid (HX.out.trans (hb.mono HX.out.size))
                    clear hb
                    generalize X.heap.size = g5 at *
                    generalize World.alloc X _ = X at *
                    refine hK.out _ _ HS.out (fun hH3 => ?_)
                    clear hK K
                    try simp only [List.setIfInBounds_toArray, List.set_cons_zero, List.set_cons_succ]
                    refine wpAnyH_ready (rs := [7]) (by kernel_rfl) (by simp) ?_
                    refine AllReadyH.cons (by simp only [List.getElem?_toArray, List.getElem?_cons_succ, List.getElem?_cons_zero]; rfl) (fun K hK => ?_) ?_
                    · refine step_append_sl (by rfl) _ _ 26 (by rfl) wr.heap.size 37 i0 _ 8 64 und_slatsR hi hz0 hz1 hz2 rfl (by decide) v8 u.length (slatsV u) (by rfl) HO.out (some ⟨g5, 0, none⟩) 1 1 [.int .i64 b.thick.lo, .int .i64 b.thick.hi, .int .i64 b.depth.lo, .int .i64 b.depth.hi, .int .i64 b.shift.lo, .int .i64 b.shift.hi, .int .i64 b.pitch.lo, .int .i64 b.pitch.hi] (by rfl) (fun h => by cases h) (by rfl) (fun ad e => by cases e; exact World.news_of_block (cs := #[.int .i64 b.thick.lo, .int .i64 b.thick.hi, .int .i64 b.depth.lo, .int .i64 b.depth.hi, .int .i64 b.shift.lo, .int .i64 b.shift.hi, .int .i64 b.pitch.lo, .int .i64 b.pitch.hi]) (t := 37) (fr := (0, 0)) H5.out) (by simp [Value.oneCell']) (by unfold maxLen; omega) (by omega) HX.out.size ?_
                      intro v9 X9 hown hgr
                      have hb := below_app HX.out.size HO.out hgr
                      obtain ⟨A9, c9, rfl, hT9⟩ := slats_form (l := u ++ [b]) (by rw [slatsV_append]; exact hown) (by simp)
                      have HT9 := Lib.hid hT9
                      replace HS := Lib.hid (HS.out.low hb HLW.out)
                      replace HX := Lib.hid (HX.out.trans hb)
                      clear hb hown hgr H5 HO hT9
                      generalize X9 = X at *
                      rw [List.length_append, List.length_singleton] at *
                      refine hK.out _ _ HS.out (fun hH4 => ?_)
                      clear hK K
                      try simp only [List.setIfInBounds_toArray, List.set_cons_zero, List.set_cons_succ]
                      refine wpAnyH_ready (rs := [9]) (by kernel_rfl) (by simp) ?_
                      refine AllReadyH.cons (by simp only [List.getElem?_toArray, List.getElem?_cons_succ, List.getElem?_cons_zero]; rfl) (fun K hK => ?_) ?_
                      · go_simp
                        refine (HP2.out _ _ _ HS.out.hb HT9.out).mono ?_
                        rintro e X6 ⟨v43, rfl, hb⟩
                        replace HS := Lib.hid (HS.out.call hb)
                        replace HX := Lib.hid (HX.out.trans (hb.mono HX.out.size))
                        clear hb HT9
                        generalize X6 = X at *
                        refine hK.out _ _ HS.out (fun hH5 => ?_)
                        clear hK K
                        try simp only [List.setIfInBounds_toArray, List.set_cons_zero, List.set_cons_succ]
                        refine wpAnyH_take (i := 10 ) (v := ?_) rfl (by kernel_rfl) (by kernel_rfl) (by kernel_rfl) (fun _ _ _ h => h) (Or.inl ⟨by rfl, ?_⟩) (by assumption) ?_; rotate_left; (· (intro w0 hSw; clear hSw; go_simp); first | done | with_reducible rfl); (try simp only [Act.put, List.getElem_toArray, List.getElem_cons_succ, List.getElem_cons_zero, List.setIfInBounds_toArray, List.set_cons_zero, List.set_cons_succ])
                        refine wpAnyH_take (i := 11 ) (v := ?_) rfl (by kernel_rfl) (by kernel_rfl) (by kernel_rfl) (fun _ _ _ h => h) (Or.inl ⟨by rfl, ?_⟩) (by assumption) ?_; rotate_left; (· (intro w0 hSw; clear hSw; go_simp); first | done | with_reducible rfl); (try simp only [Act.put, List.getElem_toArray, List.getElem_cons_succ, List.getElem_cons_zero, List.setIfInBounds_toArray, List.set_cons_zero, List.set_cons_succ])
                        refine wpAnyH_take (i := 12 ) (v := ?_) rfl (by kernel_rfl) (by kernel_rfl) (by kernel_rfl) (fun _ _ _ h => h) (Or.inl ⟨by rfl, ?_⟩) (by assumption) ?_; rotate_left; (· (intro w0 hSw; clear hSw; go_simp); first | done | with_reducible rfl); (try simp only [Act.put, List.getElem_toArray, List.getElem_cons_succ, List.getElem_cons_zero, List.setIfInBounds_toArray, List.set_cons_zero, List.set_cons_succ])
                        refine wpAnyH_take (i := 13 ) (v := ?_) rfl (by kernel_rfl) (by kernel_rfl) (by kernel_rfl) (fun _ _ _ h => h) (Or.inl ⟨by rfl, ?_⟩) (by assumption) ?_; rotate_left; (· (intro w0 hSw; clear hSw; go_simp); first | done | with_reducible rfl); (try simp only [Act.put, List.getElem_toArray, List.getElem_cons_succ, List.getElem_cons_zero, List.setIfInBounds_toArray, List.set_cons_zero, List.set_cons_succ])
                        refine wpAnyH_take (i := 14 ) (v := ?_) rfl (by kernel_rfl) (by kernel_rfl) (by kernel_rfl) (fun _ _ _ h => h) (Or.inl ⟨by rfl, ?_⟩) (by assumption) ?_; rotate_left; (· (intro w0 hSw; clear hSw; go_simp); first | done | with_reducible rfl); (try simp only [Act.put, List.getElem_toArray, List.getElem_cons_succ, List.getElem_cons_zero, List.setIfInBounds_toArray, List.set_cons_zero, List.set_cons_succ])
                        refine wpAnyH_take (i := 15 ) (v := ?_) rfl (by kernel_rfl) (by kernel_rfl) (by kernel_rfl) (fun _ _ _ h => h) (Or.inl ⟨by rfl, ?_⟩) (by assumption) ?_; rotate_left; (· (intro w0 hSw; clear hSw; go_simp); first | done | with_reducible rfl); (try simp only [Act.put, List.getElem_toArray, List.getElem_cons_succ, List.getElem_cons_zero, List.setIfInBounds_toArray, List.set_cons_zero, List.set_cons_succ])
                        refine wpAnyH_take (i := 16 ) (v := ?_) rfl (by kernel_rfl) (by kernel_rfl) (by kernel_rfl) (fun _ _ _ h => h) (Or.inl ⟨by rfl, ?_⟩) (by assumption) ?_; rotate_left; (· (intro w0 hSw; clear hSw; go_simp); first | done | with_reducible rfl); (try simp only [Act.put, List.getElem_toArray, List.getElem_cons_succ, List.getElem_cons_zero, List.setIfInBounds_toArray, List.set_cons_zero, List.set_cons_succ])
                        refine wpAnyH_done (by kernel_rfl) ?_ _
                        go_wp2_with fail
                        go_meet
                        exact ⟨rfl, rfl, HS, HX⟩
                      exact AllReadyH.nil
                    exact AllReadyH.nil
                  exact AllReadyH.nil
                refine AllReadyH.cons (by simp only [List.getElem?_toArray, List.getElem?_cons_succ, List.getElem?_cons_zero]; rfl) (fun K hK => ?_) ?_
                · rw [if_pos (by rfl)]
                  refine wp_bs 26 37 1 _ (by rfl) #[.int .i64 b.thick.lo, .int .i64 b.thick.hi, .int .i64 b.depth.lo, .int .i64 b.depth.hi, .int .i64 b.shift.lo, .int .i64 b.shift.hi, .int .i64 b.pitch.lo, .int .i64 b.pitch.hi] [.agg #[.int .i64 b.thick.lo, .int .i64 b.thick.hi, .int .i64 b.depth.lo, .int .i64 b.depth.hi, .int .i64 b.shift.lo, .int .i64 b.shift.hi, .int .i64 b.pitch.lo, .int .i64 b.pitch.hi]] (.agg #[.int .i64 0, .int .i64 0, .int .i64 0, .int .i64 0, .int .i64 0, .int .i64 0, .int .i64 0, .int .i64 0]) 8 (by kernel_rfl) (by kernel_rfl) (by decide) (by rfl) (by rfl) (by rfl) (by rfl) ?_
                  simp only [Act.put, List.setIfInBounds_toArray, List.set_cons_zero, List.set_cons_succ]
                  have hb : Below X.heap.size X (X.alloc (.cells #[.int .i64 b.thick.lo, .int .i64 b.thick.hi, .int .i64 b.depth.lo, .int .i64 b.depth.hi, .int .i64 b.shift.lo, .int .i64 b.shift.hi, .int .i64 b.pitch.lo, .int .i64 b.pitch.hi] 37)) := (Below.refl _ _).alloc (Nat.le_refl _) _
                  have H5 := Lib.hid (Blk.new X 37 #[.int .i64 b.thick.lo, .int .i64 b.thick.hi, .int .i64 b.depth.lo, .int .i64 b.depth.hi, .int .i64 b.shift.lo, .int .i64 b.shift.hi, .int .i64 b.pitch.lo, .int .i64 b.pitch.hi])
                  replace HO := Lib.hid (own5 HO.out hb)
                  have hne : X.heap.size ≠ g1 := Nat.ne_of_gt hg2
                  replace HS := Lib.hid (HS.out.call hb)
                  replace HX := Lib.hid (HX.out.trans (hb.mono HX.out.size))
                  clear hb
                  generalize X.heap.size = g5 at *
                  generalize World.alloc X _ = X at *
                  refine hK.out _ _ HS.out (fun hH6 => ?_)
                  clear hK K
                  try simp only [List.setIfInBounds_toArray, List.set_cons_zero, List.set_cons_succ]
                  refine wpAnyH_ready (rs := [4]) (by kernel_rfl) (by simp) ?_
                  refine AllReadyH.cons (by simp only [List.getElem?_toArray, List.getElem?_cons_succ, List.getElem?_cons_zero]; rfl) (fun K hK => ?_) ?_
                  · refine step_append_sl (by rfl) _ _ 26 (by rfl) wr.heap.size 37 i0 _ 8 64 und_slatsR hi hz0 hz1 hz2 rfl (by decide) (.slice (some ⟨g1, 0, none⟩) 0 0) 0 (slatsV []) (by rfl) HO.out B u.length cb (slatsV u) (by rfl) HBN.out (slatsV_len _) (slats_newsA (HBB.out.on HS.out.hb (Nat.le_refl _))) (slatsV_one _) (by unfold maxLen; omega) (by omega) HX.out.size ?_
                    intro v8 X8 hown hgr
                    rw [Nat.zero_add] at hown
                    simp only [slatsV, List.nil_append] at hown
                    have hb := below_app HX.out.size HO.out hgr
                    replace H5 := Lib.hid (H5.out.kept hgr (by simpa [Value.ownBlock] using hne))
                    replace HS := Lib.hid (HS.out.low hb HLW.out)
                    replace HX := Lib.hid (HX.out.trans hb)
                    replace HO := Lib.hid hown
                    clear hb hown hgr
                    generalize X8 = X at *
                    refine hK.out _ _ HS.out (fun hH7 => ?_)
                    clear hK K
                    try simp only [List.setIfInBounds_toArray, List.set_cons_zero, List.set_cons_succ]
                    refine wpAnyH_ready (rs := [7]) (by kernel_rfl) (by simp) ?_
                    refine AllReadyH.cons (by simp only [List.getElem?_toArray, List.getElem?_cons_succ, List.getElem?_cons_zero]; rfl) (fun K hK => ?_) ?_
                    · refine step_append_sl (by rfl) _ _ 26 (by rfl) wr.heap.size 37 i0 _ 8 64 und_slatsR hi hz0 hz1 hz2 rfl (by decide) v8 u.length (slatsV u) (by rfl) HO.out (some ⟨g5, 0, none⟩) 1 1 [.int .i64 b.thick.lo, .int .i64 b.thick.hi, .int .i64 b.depth.lo, .int .i64 b.depth.hi, .int .i64 b.shift.lo, .int .i64 b.shift.hi, .int .i64 b.pitch.lo, .int .i64 b.pitch.hi] (by rfl) (fun h => by cases h) (by rfl) (fun ad e => by cases e; exact World.news_of_block (cs := #[.int .i64 b.thick.lo, .int .i64 b.thick.hi, .int .i64 b.depth.lo, .int .i64 b.depth.hi, .int .i64 b.shift.lo, .int .i64 b.shift.hi, .int .i64 b.pitch.lo, .int .i64 b.pitch.hi]) (t := 37) (fr := (0, 0)) H5.out) (by simp [Value.oneCell']) (by unfold maxLen; omega) (by omega) HX.out.size ?_
                      intro v9 X9 hown hgr
                      have hb := below_app HX.out.size HO.out hgr
                      obtain ⟨A9, c9, rfl, hT9⟩ := slats_form (l := u ++ [b]) (by rw [slatsV_append]; exact hown) (by simp)
                      have HT9 := Lib.hid hT9
                      replace HS := Lib.hid (HS.out.low hb HLW.out)
                      replace HX := Lib.hid (HX.out.trans hb)
                      clear hb hown hgr H5 HO hT9
                      generalize X9 = X at *
                      rw [List.length_append, List.length_singleton] at *
                      refine hK.out _ _ HS.out (fun hH8 => ?_)
                      clear hK K
                      try simp only [List.setIfInBounds_toArray, List.set_cons_zero, List.set_cons_succ]
                      refine wpAnyH_ready (rs := [9]) (by kernel_rfl) (by simp) ?_
                      refine AllReadyH.cons (by simp only [List.getElem?_toArray, List.getElem?_cons_succ, List.getElem?_cons_zero]; rfl) (fun K hK => ?_) ?_
                      · go_simp
                        refine (HP2.out _ _ _ HS.out.hb HT9.out).mono ?_
                        rintro e X6 ⟨v43, rfl, hb⟩
                        replace HS := Lib.hid (HS.out.call hb)
                        replace HX := Lib.hid (HX.out.trans (hb.mono HX.out.size))
                        clear hb HT9
                        generalize X6 = X at *
                        refine hK.out _ _ HS.out (fun hH9 => ?_)
                        clear hK K
                        try simp only [List.setIfInBounds_toArray, List.set_cons_zero, List.set_cons_succ]
                        refine wpAnyH_take (i := 10 ) (v := ?_) rfl (by kernel_rfl) (by kernel_rfl) (by kernel_rfl) (fun _ _ _ h => h) (Or.inl ⟨by rfl, ?_⟩) (by assumption) ?_; rotate_left; (· (intro w0 hSw; clear hSw; go_simp); first | done | with_reducible rfl); (try simp only [Act.put, List.getElem_toArray, List.getElem_cons_succ, List.getElem_cons_zero, List.setIfInBounds_toArray, List.set_cons_zero, List.set_cons_succ])
                        refine wpAnyH_take (i := 11 ) (v := ?_) rfl (by kernel_rfl) (by kernel_rfl) (by kernel_rfl) (fun _ _ _ h => h) (Or.inl ⟨by rfl, ?_⟩) (by assumption) ?_; rotate_left; (· (intro w0 hSw; clear hSw; go_simp); first | done | with_reducible rfl); (try simp only [Act.put, List.getElem_toArray, List.getElem_cons_succ, List.getElem_cons_zero, List.setIfInBounds_toArray, List.set_cons_zero, List.set_cons_succ])
                        refine wpAnyH_take (i := 12 ) (v := ?_) rfl (by kernel_rfl) (by kernel_rfl) (by kernel_rfl) (fun _ _ _ h => h) (Or.inl ⟨by rfl, ?_⟩) (by assumption) ?_; rotate_left; (· (intro w0 hSw; clear hSw; go_simp); first | done | with_reducible rfl); (try simp only [Act.put, List.getElem_toArray, List.getElem_cons_succ, List.getElem_cons_zero, List.setIfInBounds_toArray, List.set_cons_zero, List.set_cons_succ])
                        refine wpAnyH_take (i := 13 ) (v := ?_) rfl (by kernel_rfl) (by kernel_rfl) (by kernel_rfl) (fun _ _ _ h => h) (Or.inl ⟨by rfl, ?_⟩) (by assumption) ?_; rotate_left; (· (intro w0 hSw; clear hSw; go_simp); first | done | with_reducible rfl); (try simp only [Act.put, List.getElem_toArray, List.getElem_cons_succ, List.getElem_cons_zero, List.setIfInBounds_toArray, List.set_cons_zero, List.set_cons_succ])
                        refine wpAnyH_take (i := 14 ) (v := ?_) rfl (by kernel_rfl) (by kernel_rfl) (by kernel_rfl) (fun _ _ _ h => h) (Or.inl ⟨by rfl, ?_⟩) (by assumption) ?_; rotate_left; (· (intro w0 hSw; clear hSw; go_simp); first | done | with_reducible rfl); (try simp only [Act.put, List.getElem_toArray, List.getElem_cons_succ, List.getElem_cons_zero, List.setIfInBounds_toArray, List.set_cons_zero, List.set_cons_succ])
                        refine wpAnyH_take (i := 15 ) (v := ?_) rfl (by kernel_rfl) (by kernel_rfl) (by kernel_rfl) (fun _ _ _ h => h) (Or.inl ⟨by rfl, ?_⟩) (by assumption) ?_; rotate_left; (· (intro w0 hSw; clear hSw; go_simp); first | done | with_reducible rfl); (try simp only [Act.put, List.getElem_toArray, List.getElem_cons_succ, List.getElem_cons_zero, List.setIfInBounds_toArray, List.set_cons_zero, List.set_cons_succ])
                        refine wpAnyH_take (i := 16 ) (v := ?_) rfl (by kernel_rfl) (by kernel_rfl) (by kernel_rfl) (fun _ _ _ h => h) (Or.inl ⟨by rfl, ?_⟩) (by assumption) ?_; rotate_left; (· (intro w0 hSw; clear hSw; go_simp); first | done | with_reducible rfl); (try simp only [Act.put, List.getElem_toArray, List.getElem_cons_succ, List.getElem_cons_zero, List.setIfInBounds_toArray, List.set_cons_zero, List.set_cons_succ])
                        refine wpAnyH_done (by kernel_rfl) ?_ _
                        go_wp2_with fail
                        go_meet
                        exact ⟨rfl, rfl, HS, HX⟩
                      exact AllReadyH.nil
                    exact AllReadyH.nil
                  exact AllReadyH.nil
                exact AllReadyH.nil
              refine AllReadyH.cons (by simp only [List.getElem?_toArray, List.getElem?_cons_succ, List.getElem?_cons_zero]; rfl) (fun K hK => ?_) ?_
              · rw [if_pos (by rfl)]
                refine wp_bs 26 37 1 _ (by rfl) #[.int .i64 b.thick.lo, .int .i64 b.thick.hi, .int .i64 b.depth.lo, .int .i64 b.depth.hi, .int .i64 b.shift.lo, .int .i64 b.shift.hi, .int .i64 b.pitch.lo, .int .i64 b.pitch.hi] [.agg #[.int .i64 b.thick.lo, .int .i64 b.thick.hi, .int .i64 b.depth.lo, .int .i64 b.depth.hi, .int .i64 b.shift.lo, .int .i64 b.shift.hi, .int .i64 b.pitch.lo, .int .i64 b.pitch.hi]] (.agg #[.int .i64 0, .int .i64 0, .int .i64 0, .int .i64 0, .int .i64 0, .int .i64 0, .int .i64 0, .int .i64 0]) 8 (by kernel_rfl) (by kernel_rfl) (by decide) (by rfl) (by rfl) (by rfl) (by rfl) ?_
                simp only [Act.put, List.setIfInBounds_toArray, List.set_cons_zero, List.set_cons_succ]
                have hb : Below V0.heap.size V0 (V0.alloc (.cells #[.int .i64 b.thick.lo, .int .i64 b.thick.hi, .int .i64 b.depth.lo, .int .i64 b.depth.hi, .int .i64 b.shift.lo, .int .i64 b.shift.hi, .int .i64 b.pitch.lo, .int .i64 b.pitch.hi] 37)) := (Below.refl _ _).alloc (Nat.le_refl _) _
                have H5 := Lib.hid (Blk.new V0 37 #[.int .i64 b.thick.lo, .int .i64 b.thick.hi, .int .i64 b.depth.lo, .int .i64 b.depth.hi, .int .i64 b.shift.lo, .int .i64 b.shift.hi, .int .i64 b.pitch.lo, .int .i64 b.pitch.hi])
                replace HS := Lib.hid (HS.out.call hb)
                replace HX := Lib.hid (HX.out.trans (hb.mono HX.out.size))
                clear hb
                generalize V0.heap.size = g5 at *
                generalize World.alloc V0 _ = X at *
                refine hK.out _ _ HS.out (fun hH10 => ?_)
                clear hK K
                try simp only [List.setIfInBounds_toArray, List.set_cons_zero, List.set_cons_succ]
                refine wpAnyH_ready (rs := [2]) (by kernel_rfl) (by simp) ?_
                refine AllReadyH.cons (by simp only [List.getElem?_toArray, List.getElem?_cons_succ, List.getElem?_cons_zero]; rfl) (fun K hK => ?_) ?_
                · go_simp
                  have hb : Below X.heap.size X (X.alloc (.cells #[] 37)) := (Below.refl _ _).alloc (Nat.le_refl _) _
                  have HO := Lib.hid (slats_empty (B := wr.heap.size) HX.out.size (Blk.new X 37 #[]))
                  have hg2 := (Blk.new X 37 #[]).lt
                  have hne : g5 ≠ X.heap.size := Nat.ne_of_lt H5.out.lt
                  replace H5 := Lib.hid (H5.out.below hb H5.out.lt)
                  replace HS := Lib.hid (HS.out.call hb)
                  replace HX := Lib.hid (HX.out.trans (hb.mono HX.out.size))
                  clear hb
                  generalize X.heap.size = g1 at *
                  generalize World.alloc X _ = X at *
                  refine hK.out _ _ HS.out (fun hH11 => ?_)
                  clear hK K
                  try simp only [List.setIfInBounds_toArray, List.set_cons_zero, List.set_cons_succ]
                  refine wpAnyH_ready (rs := [4]) (by kernel_rfl) (by simp) ?_
                  refine AllReadyH.cons (by simp only [List.getElem?_toArray, List.getElem?_cons_succ, List.getElem?_cons_zero]; rfl) (fun K hK => ?_) ?_
                  · refine step_append_sl (by rfl) _ _ 26 (by rfl) wr.heap.size 37 i0 _ 8 64 und_slatsR hi hz0 hz1 hz2 rfl (by decide) (.slice (some ⟨g1, 0, none⟩) 0 0) 0 (slatsV []) (by rfl) HO.out B u.length cb (slatsV u) (by rfl) HBN.out (slatsV_len _) (slats_newsA (HBB.out.on HS.out.hb (Nat.le_refl _))) (slatsV_one _) (by unfold maxLen; omega) (by omega) HX.out.size ?_
                    intro v8 X8 hown hgr
                    rw [Nat.zero_add] at hown
                    simp only [slatsV, List.nil_append] at hown
                    have hb := below_app HX.out.size HO.out hgr
                    replace H5 := Lib.hid (H5.out.kept hgr (by simpa [Value.ownBlock] using hne))
                    replace HS := Lib.hid (HS.out.low hb HLW.out)
                    replace HX := Lib.hid (HX.out.trans hb)
                    replace HO := Lib.hid hown
                    clear hb hown hgr
                    generalize X8 = X at *
                    refine hK.out _ _ HS.out (fun hH12 => ?_)
                    clear hK K
                    try simp only [List.setIfInBounds_toArray, List.set_cons_zero, List.set_cons_succ]
                    refine wpAnyH_ready (rs := [7]) (by kernel_rfl) (by simp) ?_
                    refine AllReadyH.cons (by simp only [List.getElem?_toArray, List.getElem?_cons_succ, List.getElem?_cons_zero]; rfl) (fun K hK => ?_) ?_
                    · refine step_append_sl (by rfl) _ _ 26 (by rfl) wr.heap.size 37 i0 _ 8 64 und_slatsR hi hz0 hz1 hz2 rfl (by decide) v8 u.length (slatsV u) (by rfl) HO.out (some ⟨g5, 0, none⟩) 1 1 [.int .i64 b.thick.lo, .int .i64 b.thick.hi, .int .i64 b.depth.lo, .int .i64 b.depth.hi, .int .i64 b.shift.lo, .int .i64 b.shift.hi, .int .i64 b.pitch.lo, .int .i64 b.pitch.hi] (by rfl) (fun h => by cases h) (by rfl) (fun ad e => by cases e; exact World.news_of_block (cs := #[.int .i64 b.thick.lo, .int .i64 b.thick.hi, .int .i64 b.depth.lo, .int .i64 b.depth.hi, .int .i64 b.shift.lo, .int .i64 b.shift.hi, .int .i64 b.pitch.lo, .int .i64 b.pitch.hi]) (t := 37) (fr := (0, 0)) H5.out) (by simp [Value.oneCell']) (by unfold maxLen; omega) (by omega) HX.out.size ?_
                      intro v9 X9 hown hgr
                      have hb := below_app HX.out.size HO.out hgr
                      obtain ⟨A9, c9, rfl, hT9⟩ := slats_form (l := u ++ [b]) (by rw [slatsV_append]; exact hown) (by simp)
                      have HT9 := Lib.hid hT9
                      replace HS := Lib.hid (HS.out.low hb HLW.out)
                      replace HX := Lib.hid (HX.out.trans hb)
                      clear hb hown hgr H5 HO hT9
                      generalize X9 = X at *
                      rw [List.length_append, List.length_singleton] at *
                      refine hK.out _ _ HS.out (fun hH13 => ?_)
                      clear hK K
                      try simp only [List.setIfInBounds_toArray, List.set_cons_zero, List.set_cons_succ]
                      refine wpAnyH_ready (rs := [9]) (by kernel_rfl) (by simp) ?_
                      refine AllReadyH.cons (by simp only [List.getElem?_toArray, List.getElem?_cons_succ, List.getElem?_cons_zero]; rfl) (fun K hK => ?_) ?_
                      · go_simp
                        refine (HP2.out _ _ _ HS.out.hb HT9.out).mono ?_
                        rintro e X6 ⟨v43, rfl, hb⟩
                        replace HS := Lib.hid (HS.out.call hb)
                        replace HX := Lib.hid (HX.out.trans (hb.mono HX.out.size))
                        clear hb HT9
                        generalize X6 = X at *
                        refine hK.out _ _ HS.out (fun hH14 => ?_)
                        clear hK K
                        try simp only [List.setIfInBounds_toArray, List.set_cons_zero, List.set_cons_succ]
                        refine wpAnyH_take (i := 10 ) (v := ?_) rfl (by kernel_rfl) (by kernel_rfl) (by kernel_rfl) (fun _ _ _ h => h) (Or.inl ⟨by rfl, ?_⟩) (by assumption) ?_; rotate_left; (· (intro w0 hSw; clear hSw; go_simp); first | done | with_reducible rfl); (try simp only [Act.put, List.getElem_toArray, List.getElem_cons_succ, List.getElem_cons_zero, List.setIfInBounds_toArray, List.set_cons_zero, List.set_cons_succ])
                        refine wpAnyH_take (i := 11 ) (v := ?_) rfl (by kernel_rfl) (by kernel_rfl) (by kernel_rfl) (fun _ _ _ h => h) (Or.inl ⟨by rfl, ?_⟩) (by assumption) ?_; rotate_left; (· (intro w0 hSw; clear hSw; go_simp); first | done | with_reducible rfl); (try simp only [Act.put, List.getElem_toArray, List.getElem_cons_succ, List.getElem_cons_zero, List.setIfInBounds_toArray, List.set_cons_zero, List.set_cons_succ])
                        refine wpAnyH_take (i := 12 ) (v := ?_) rfl (by kernel_rfl) (by kernel_rfl) (by kernel_rfl) (fun _ _ _ h => h) (Or.inl ⟨by rfl, ?_⟩) (by assumption) ?_; rotate_left; (· (intro w0 hSw; clear hSw; go_simp); first | done | with_reducible rfl); (try simp only [Act.put, List.getElem_toArray, List.getElem_cons_succ, List.getElem_cons_zero, List.setIfInBounds_toArray, List.set_cons_zero, List.set_cons_succ])
                        refine wpAnyH_take (i := 13 ) (v := ?_) rfl (by kernel_rfl) (by kernel_rfl) (by kernel_rfl) (fun _ _ _ h => h) (Or.inl ⟨by rfl, ?_⟩) (by assumption) ?_; rotate_left; (· (intro w0 hSw; clear hSw; go_simp); first | done | with_reducible rfl); (try simp only [Act.put, List.getElem_toArray, List.getElem_cons_succ, List.getElem_cons_zero, List.setIfInBounds_toArray, List.set_cons_zero, List.set_cons_succ])
                        refine wpAnyH_take (i := 14 ) (v := ?_) rfl (by kernel_rfl) (by kernel_rfl) (by kernel_rfl) (fun _ _ _ h => h) (Or.inl ⟨by rfl, ?_⟩) (by assumption) ?_; rotate_left; (· (intro w0 hSw; clear hSw; go_simp); first | done | with_reducible rfl); (try simp only [Act.put, List.getElem_toArray, List.getElem_cons_succ, List.getElem_cons_zero, List.setIfInBounds_toArray, List.set_cons_zero, List.set_cons_succ])
                        refine wpAnyH_take (i := 15 ) (v := ?_) rfl (by kernel_rfl) (by kernel_rfl) (by kernel_rfl) (fun _ _ _ h => h) (Or.inl ⟨by rfl, ?_⟩) (by assumption) ?_; rotate_left; (· (intro w0 hSw; clear hSw; go_simp); first | done | with_reducible rfl); (try simp only [Act.put, List.getElem_toArray, List.getElem_cons_succ, List.getElem_cons_zero, List.setIfInBounds_toArray, List.set_cons_zero, List.set_cons_succ])
                        refine wpAnyH_take (i := 16 ) (v := ?_) rfl (by kernel_rfl) (by kernel_rfl) (by kernel_rfl) (fun _ _ _ h => h) (Or.inl ⟨by rfl, ?_⟩) (by assumption) ?_; rotate_left; (· (intro w0 hSw; clear hSw; go_simp); first | done | with_reducible rfl); (try simp only [Act.put, List.getElem_toArray, List.getElem_cons_succ, List.getElem_cons_zero, List.setIfInBounds_toArray, List.set_cons_zero, List.set_cons_succ])
                        refine wpAnyH_done (by kernel_rfl) ?_ _
                        go_wp2_with fail
                        go_meet
                        exact ⟨rfl, rfl, HS, HX⟩
                      exact AllReadyH.nil
                    exact AllReadyH.nil
                  exact AllReadyH.nil
                exact AllReadyH.nil
              exact AllReadyH.nil
            case rest => as_aux_lemma =>
              clear HS HX
              obtain ⟨rfl, rfl, HS, HX⟩ := hcut
              have KJ := Lib.hid HS.out.k4
              have wl9 : IntKind.i64.wrap (lim + (r : Int)) = lim + r := IntWalk.i64_in _ ⟨by have := HLI.out; omega, by have := HLI.out; omega⟩
              obtain ⟨lm, hlm⟩ : ∃ v, min 1000 (lim + (r : Int)) = v := ⟨_, rfl⟩
              rw [hlm] at HP3
              go_wp2_with (with_reducible refine wpList_load_mid (by with_unfolding_all rfl) 25 _ (by with_unfolding_all rfl) _ _ (by with_unfolding_all rfl) [.int .i64 j.glue.lo, .int .i64 j.glue.hi, .int .i64 j.lead.lo, .int .i64 j.lead.hi, .int .i64 j.side.lo, .int .i64 j.side.hi, .int .i64 j.height.lo, .int .i64 j.height.hi, .int .i64 j.play, .int .i64 j.grooves] _ KJ.out.range (by with_unfolding_all rfl) (by with_unfolding_all rfl) (by kernel_rfl) ?_)
              refine (HP3.out _ HS.out.hb).mono ?_
              rintro e W5 ⟨v49, rfl, hb⟩
              replace HS := Lib.hid (HS.out.call hb)
              replace HX := Lib.hid (HX.out.trans (hb.mono HX.out.size))
              clear hb KJ hlm wl9
              have KJ := Lib.hid HS.out.k4
              go_wp2_with (with_reducible refine wpList_load_mid (by with_unfolding_all rfl) 25 _ (by with_unfolding_all rfl) _ _ (by with_unfolding_all rfl) [.int .i64 j.glue.lo, .int .i64 j.glue.hi, .int .i64 j.lead.lo, .int .i64 j.lead.hi, .int .i64 j.side.lo, .int .i64 j.side.hi, .int .i64 j.height.lo, .int .i64 j.height.hi, .int .i64 j.play, .int .i64 j.grooves] _ KJ.out.range (by with_unfolding_all rfl) (by with_unfolding_all rfl) (by kernel_rfl) ?_)
              refine (HP4.out _ _ _ HS.out.hb (HTU.out _ HX.out)).mono ?_
              rintro e W6 ⟨v52, rfl, hb⟩
              replace HS := Lib.hid (HS.out.call hb)
              clear hb KJ HX HT HTU
              obtain ⟨m2, m4, m6⟩ := HM.out
              obtain ⟨n2, n4, n6⟩ := HM2.out
              go_wp2_with fail
              refine (alive05_any _).mono ?_; rintro e w9 ⟨rfl, hb9⟩; have HB9 := Lib.hid (HS.out.hb.trans (hb9.mono HS.out.hb.size)); clear HS hb9; go_wp2_with fail; go_ret; exact ⟨rfl, HB9.out⟩
  · have hz' : (z0 != 0) = true := by rw [bne_iff_ne]; exact hz
    obtain rfl : p0 = 0 := HE0.out hz
    go_wp2_with fail
    refine (alive05_any _).mono ?_; rintro e w9 ⟨rfl, hb9⟩; have HB9 := Lib.hid (HS.out.hb.trans (hb9.mono HS.out.hb.size)); clear HS hb9; go_wp2_with fail; go_ret; exact ⟨rfl, HB9.out⟩
end Go.Proofs.Ytfpfafijockfnaa
