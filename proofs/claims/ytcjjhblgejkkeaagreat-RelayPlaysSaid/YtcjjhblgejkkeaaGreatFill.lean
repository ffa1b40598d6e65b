/- Copies into rows made on the spot: stage 8's texts hold them (filled under the name of stage 7's text, which names them a second time). -/
import Derived.Test.YtcjjhblgejkkeaaGreatSw
